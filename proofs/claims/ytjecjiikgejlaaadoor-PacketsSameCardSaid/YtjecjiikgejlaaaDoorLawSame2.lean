/-
  Helper text: the walk of the law PacketsSame; no statement is proved here.
-/
import Derived.Test.YtjecjiikgejlaaaDoorLawSame
namespace Go.Proofs.YtjecjiikgejlaaaDoor
open Go Go.RowKit

theorem sameB_symm (a b : Rg) (xs ys : List UInt8) : sameB b a ys xs = sameB a b xs ys := by
  unfold sameB
  have hn : ∀ m n : Nat, (m == n) = (n == m) := fun m n => by rw [Bool.eq_iff_iff, beq_iff_eq, beq_iff_eq]; exact eq_comm
  have hb : ∀ m n : Bool, (m == n) = (n == m) := fun m n => by cases m <;> cases n <;> rfl
  rw [hn b.pid, hn b.addr, hn b.endp, hn b.frame, hn b.hub, hn b.port, hb b.comp, hb b.low, hn b.kind, decide_eq_decide.2 (eq_comm : ys = xs ↔ xs = ys)]
theorem sameB_self (a : Rg) (xs : List UInt8) : sameB a a xs xs = true := by
  unfold sameB
  simp

set_option maxHeartbeats 800000 in
set_option maxRecDepth 100000 in
theorem lawSame_skip (w : World) (a b : Rg) (A A' : Option Addr) (n c n' c' : Nat) (ha : a.data = .slice A n c) (hb : b.data = .slice A' n' c') (h : 400 < n ∨ 400 < n') :
    Calls Tryd.prog 3 #[.agg (pcells a), .agg (pcells b)] w (ResB w true) := by
  obtain ⟨p0, p1, p2, p3, p4, p5, p6, p7, p8, p9, p10⟩ := a
  obtain ⟨q0, q1, q2, q3, q4, q5, q6, q7, q8, q9, q10⟩ := b
  simp only at ha hb
  subst ha; subst hb
  simp only [pcells]
  by_cases h1 : 400 < n
  · have t1 : (400 : Int) < (n : Int) := by omega
    go_enter Tryd.func3, Tryd.ntmps3
    go_wp2
    go_ret
    exact ⟨rfl, ((Below.refl _ w).alloc (Nat.le_refl _) _).alloc (by simp) _⟩
  · have t1 : ¬ (400 : Int) < (n : Int) := by omega
    have t2 : (400 : Int) < (n' : Int) := by omega
    go_enter Tryd.func3, Tryd.ntmps3
    go_wp2
    go_ret
    exact ⟨rfl, ((Below.refl _ w).alloc (Nat.le_refl _) _).alloc (by simp) _⟩

set_option maxHeartbeats 1600000 in
set_option maxRecDepth 100000 in
theorem lawSame_in (w : World) (hL : Laid w) (a b : Rg) (A A' : Option Addr) (c c' : Nat) (xs ys : List UInt8) (hx : Rd w w.heap.size A c xs) (hy : Rd w w.heap.size A' c' ys) (ha : a.data = .slice A xs.length c) (hb : b.data = .slice A' ys.length c') (h1 : xs.length ≤ 400) (h2 : ys.length ≤ 400) :
    Calls Tryd.prog 3 #[.agg (pcells a), .agg (pcells b)] w (ResB w true) := by
  have KS := Lib.hid fun W h1 h2 => same_any W a b A A' c c' xs ys h1 h2 ha hb
  have KT := Lib.hid fun W h1 h2 => same_any W b a A' A c' c ys xs h1 h2 hb ha
  have KA := Lib.hid fun W h1 => same_any W a a A A c c xs xs h1 h1 ha ha
  have KD := Lib.hid fun W h1 h2 => differ_any W a b A A' c c' xs ys h1 h2 ha hb
  rw [sameB_symm] at KT
  rw [sameB_self] at KA
  generalize sameB a b xs ys = sb at KS KT KD
  obtain ⟨p0, p1, p2, p3, p4, p5, p6, p7, p8, p9, p10⟩ := a
  obtain ⟨q0, q1, q2, q3, q4, q5, q6, q7, q8, q9, q10⟩ := b
  simp only at ha hb
  subst ha; subst hb
  simp only [pcells] at KS KT KA KD ⊢
  have t1 : ¬ (400 : Int) < (xs.length : Int) := by omega
  have t2 : ¬ (400 : Int) < (ys.length : Int) := by omega
  have hA0 : ((w.alloc (.cells #[.int .u8 (p0 : Int), .int .u8 (p1 : Int), .int .u8 (p2 : Int), .int .u16 (p3 : Int), .int .u8 (p4 : Int), .int .u8 (p5 : Int), .bool p6, .bool p7, .int .u8 (p8 : Int), .slice A xs.length c] 29)).alloc (.cells #[.int .u8 (q0 : Int), .int .u8 (q1 : Int), .int .u8 (q2 : Int), .int .u16 (q3 : Int), .int .u8 (q4 : Int), .int .u8 (q5 : Int), .bool q6, .bool q7, .int .u8 (q8 : Int), .slice A' ys.length c'] 29)).drew.heap[w.heap.size]? = _ := (Below.heap_alloc _ _ _ (lt_of_block (heap_alloc_new w (.cells #[.int .u8 (p0 : Int), .int .u8 (p1 : Int), .int .u8 (p2 : Int), .int .u16 (p3 : Int), .int .u8 (p4 : Int), .int .u8 (p5 : Int), .bool p6, .bool p7, .int .u8 (p8 : Int), .slice A xs.length c] 29)))).trans (heap_alloc_new w (.cells #[.int .u8 (p0 : Int), .int .u8 (p1 : Int), .int .u8 (p2 : Int), .int .u16 (p3 : Int), .int .u8 (p4 : Int), .int .u8 (p5 : Int), .bool p6, .bool p7, .int .u8 (p8 : Int), .slice A xs.length c] 29))
  have hD0 : ((w.alloc (.cells #[.int .u8 (p0 : Int), .int .u8 (p1 : Int), .int .u8 (p2 : Int), .int .u16 (p3 : Int), .int .u8 (p4 : Int), .int .u8 (p5 : Int), .bool p6, .bool p7, .int .u8 (p8 : Int), .slice A xs.length c] 29)).alloc (.cells #[.int .u8 (q0 : Int), .int .u8 (q1 : Int), .int .u8 (q2 : Int), .int .u16 (q3 : Int), .int .u8 (q4 : Int), .int .u8 (q5 : Int), .bool q6, .bool q7, .int .u8 (q8 : Int), .slice A' ys.length c'] 29)).drew.heap[w.heap.size + 1]? = _ := heap_alloc2_new w (.cells #[.int .u8 (p0 : Int), .int .u8 (p1 : Int), .int .u8 (p2 : Int), .int .u16 (p3 : Int), .int .u8 (p4 : Int), .int .u8 (p5 : Int), .bool p6, .bool p7, .int .u8 (p8 : Int), .slice A xs.length c] 29) (.cells #[.int .u8 (q0 : Int), .int .u8 (q1 : Int), .int .u8 (q2 : Int), .int .u16 (q3 : Int), .int .u8 (q4 : Int), .int .u8 (q5 : Int), .bool q6, .bool q7, .int .u8 (q8 : Int), .slice A' ys.length c'] 29)
  have hBW := (((Below.refl w.heap.size w).alloc (Nat.le_refl _) (.cells #[.int .u8 (p0 : Int), .int .u8 (p1 : Int), .int .u8 (p2 : Int), .int .u16 (p3 : Int), .int .u8 (p4 : Int), .int .u8 (p5 : Int), .bool p6, .bool p7, .int .u8 (p8 : Int), .slice A xs.length c] 29)).alloc (by simp) (.cells #[.int .u8 (q0 : Int), .int .u8 (q1 : Int), .int .u8 (q2 : Int), .int .u16 (q3 : Int), .int .u8 (q4 : Int), .int .u8 (q5 : Int), .bool q6, .bool q7, .int .u8 (q8 : Int), .slice A' ys.length c'] 29)).drew
  have hLh := Lib.hid hL
  have hxh := Lib.hid hx
  have hyh := Lib.hid hy
  clear hL hx hy h1 h2
  go_enter Tryd.func3, Tryd.ntmps3
  go_wp2
  refine startG 26 (l := #[false, false, false, false, false, false, false, false, false, false, false, false, false, false, false, false, false, false, false, false, false, false, false, false, false, false]) (by kernel_rfl) rfl rfl ?_
  change _root_.Go.Proofs.YtjecjiikgejlaaaDoor.wpAnyG _ _ _ _ _ _ _ (World.drew ((w.alloc (.cells #[.int .u8 (p0 : Int), .int .u8 (p1 : Int), .int .u8 (p2 : Int), .int .u16 (p3 : Int), .int .u8 (p4 : Int), .int .u8 (p5 : Int), .bool p6, .bool p7, .int .u8 (p8 : Int), .slice A xs.length c] 29)).alloc (.cells #[.int .u8 (q0 : Int), .int .u8 (q1 : Int), .int .u8 (q2 : Int), .int .u16 (q3 : Int), .int .u8 (q4 : Int), .int .u8 (q5 : Int), .bool q6, .bool q7, .int .u8 (q8 : Int), .slice A' ys.length c'] 29)))
  generalize World.drew ((w.alloc (.cells #[.int .u8 (p0 : Int), .int .u8 (p1 : Int), .int .u8 (p2 : Int), .int .u16 (p3 : Int), .int .u8 (p4 : Int), .int .u8 (p5 : Int), .bool p6, .bool p7, .int .u8 (p8 : Int), .slice A xs.length c] 29)).alloc (.cells #[.int .u8 (q0 : Int), .int .u8 (q1 : Int), .int .u8 (q2 : Int), .int .u16 (q3 : Int), .int .u8 (q4 : Int), .int .u8 (q5 : Int), .bool q6, .bool q7, .int .u8 (q8 : Int), .slice A' ys.length c'] 29)) = W0 at hA0 hD0 hBW ⊢
  have hL0h := Lib.hid (hLh.out.below hBW)
  have rx : ∀ W, Gr W0 W → Rd W W.heap.size A c xs := fun W hW => (hxh.out.belowTop hBW).belowTop hW
  have ry : ∀ W, Gr W0 W → Rd W W.heap.size A' c' ys := fun W hW => (hyh.out.belowTop hBW).belowTop hW
  have hBh := Lib.hid hBW
  have a0 : ∀ W, Gr W0 W → W.cell? ⟨w.heap.size, 0, none⟩ = some (.int .u8 (p0 : Int)) := fun W hW => cell_at ((hW.block w.heap.size (lt_of_block hA0)).trans hA0) 0
  have a1 : ∀ W, Gr W0 W → W.cell? ⟨w.heap.size, 1, none⟩ = some (.int .u8 (p1 : Int)) := fun W hW => cell_at ((hW.block w.heap.size (lt_of_block hA0)).trans hA0) 1
  have a2 : ∀ W, Gr W0 W → W.cell? ⟨w.heap.size, 2, none⟩ = some (.int .u8 (p2 : Int)) := fun W hW => cell_at ((hW.block w.heap.size (lt_of_block hA0)).trans hA0) 2
  have a3 : ∀ W, Gr W0 W → W.cell? ⟨w.heap.size, 3, none⟩ = some (.int .u16 (p3 : Int)) := fun W hW => cell_at ((hW.block w.heap.size (lt_of_block hA0)).trans hA0) 3
  have a4 : ∀ W, Gr W0 W → W.cell? ⟨w.heap.size, 4, none⟩ = some (.int .u8 (p4 : Int)) := fun W hW => cell_at ((hW.block w.heap.size (lt_of_block hA0)).trans hA0) 4
  have a5 : ∀ W, Gr W0 W → W.cell? ⟨w.heap.size, 5, none⟩ = some (.int .u8 (p5 : Int)) := fun W hW => cell_at ((hW.block w.heap.size (lt_of_block hA0)).trans hA0) 5
  have a6 : ∀ W, Gr W0 W → W.cell? ⟨w.heap.size, 6, none⟩ = some (.bool p6) := fun W hW => cell_at ((hW.block w.heap.size (lt_of_block hA0)).trans hA0) 6
  have a7 : ∀ W, Gr W0 W → W.cell? ⟨w.heap.size, 7, none⟩ = some (.bool p7) := fun W hW => cell_at ((hW.block w.heap.size (lt_of_block hA0)).trans hA0) 7
  have a8 : ∀ W, Gr W0 W → W.cell? ⟨w.heap.size, 8, none⟩ = some (.int .u8 (p8 : Int)) := fun W hW => cell_at ((hW.block w.heap.size (lt_of_block hA0)).trans hA0) 8
  have a9 : ∀ W, Gr W0 W → W.cell? ⟨w.heap.size, 9, none⟩ = some (.slice A xs.length c) := fun W hW => cell_at ((hW.block w.heap.size (lt_of_block hA0)).trans hA0) 9
  have d0 : ∀ W, Gr W0 W → W.cell? ⟨w.heap.size + 1, 0, none⟩ = some (.int .u8 (q0 : Int)) := fun W hW => cell_at ((hW.block (w.heap.size + 1) (lt_of_block hD0)).trans hD0) 0
  have d1 : ∀ W, Gr W0 W → W.cell? ⟨w.heap.size + 1, 1, none⟩ = some (.int .u8 (q1 : Int)) := fun W hW => cell_at ((hW.block (w.heap.size + 1) (lt_of_block hD0)).trans hD0) 1
  have d2 : ∀ W, Gr W0 W → W.cell? ⟨w.heap.size + 1, 2, none⟩ = some (.int .u8 (q2 : Int)) := fun W hW => cell_at ((hW.block (w.heap.size + 1) (lt_of_block hD0)).trans hD0) 2
  have d3 : ∀ W, Gr W0 W → W.cell? ⟨w.heap.size + 1, 3, none⟩ = some (.int .u16 (q3 : Int)) := fun W hW => cell_at ((hW.block (w.heap.size + 1) (lt_of_block hD0)).trans hD0) 3
  have d4 : ∀ W, Gr W0 W → W.cell? ⟨w.heap.size + 1, 4, none⟩ = some (.int .u8 (q4 : Int)) := fun W hW => cell_at ((hW.block (w.heap.size + 1) (lt_of_block hD0)).trans hD0) 4
  have d5 : ∀ W, Gr W0 W → W.cell? ⟨w.heap.size + 1, 5, none⟩ = some (.int .u8 (q5 : Int)) := fun W hW => cell_at ((hW.block (w.heap.size + 1) (lt_of_block hD0)).trans hD0) 5
  have d6 : ∀ W, Gr W0 W → W.cell? ⟨w.heap.size + 1, 6, none⟩ = some (.bool q6) := fun W hW => cell_at ((hW.block (w.heap.size + 1) (lt_of_block hD0)).trans hD0) 6
  have d7 : ∀ W, Gr W0 W → W.cell? ⟨w.heap.size + 1, 7, none⟩ = some (.bool q7) := fun W hW => cell_at ((hW.block (w.heap.size + 1) (lt_of_block hD0)).trans hD0) 7
  have d8 : ∀ W, Gr W0 W → W.cell? ⟨w.heap.size + 1, 8, none⟩ = some (.int .u8 (q8 : Int)) := fun W hW => cell_at ((hW.block (w.heap.size + 1) (lt_of_block hD0)).trans hD0) 8
  have d9 : ∀ W, Gr W0 W → W.cell? ⟨w.heap.size + 1, 9, none⟩ = some (.slice A' ys.length c') := fun W hW => cell_at ((hW.block (w.heap.size + 1) (lt_of_block hD0)).trans hD0) 9
  clear hA0 hD0 hBW hxh hyh hLh t1 t2
  cases sb
  · skip
    ((first | (refine takeG 0 (v := ?_) rfl (by decide +kernel) (by decide +kernel) (by decide +kernel) (fun _ _ _ h => h) (Or.inl ⟨by rfl, ?_⟩) ?_; rotate_left 1; (focus (intro W hW; go_simp; first | done | with_reducible rfl)); try simp only [Act.put, List.setIfInBounds_toArray, List.set_cons_zero, List.set_cons_succ]) | (refine takeG 0 rfl (by decide +kernel) (by decide +kernel) (by decide +kernel) (fun _ _ _ h => h) (Or.inr ⟨by rfl, rfl⟩) ?_; try simp only [Act.put, List.setIfInBounds_toArray, List.set_cons_zero, List.set_cons_succ]) | skip); (first | (refine takeG 1 (v := ?_) rfl (by decide +kernel) (by decide +kernel) (by decide +kernel) (fun _ _ _ h => h) (Or.inl ⟨by rfl, ?_⟩) ?_; rotate_left 1; (focus (intro W hW; go_simp; first | done | with_reducible rfl)); try simp only [Act.put, List.setIfInBounds_toArray, List.set_cons_zero, List.set_cons_succ]) | (refine takeG 1 rfl (by decide +kernel) (by decide +kernel) (by decide +kernel) (fun _ _ _ h => h) (Or.inr ⟨by rfl, rfl⟩) ?_; try simp only [Act.put, List.setIfInBounds_toArray, List.set_cons_zero, List.set_cons_succ]) | skip); (first | (refine takeG 3 (v := ?_) rfl (by decide +kernel) (by decide +kernel) (by decide +kernel) (fun _ _ _ h => h) (Or.inl ⟨by rfl, ?_⟩) ?_; rotate_left 1; (focus (intro W hW; go_simp; first | done | with_reducible rfl)); try simp only [Act.put, List.setIfInBounds_toArray, List.set_cons_zero, List.set_cons_succ]) | (refine takeG 3 rfl (by decide +kernel) (by decide +kernel) (by decide +kernel) (fun _ _ _ h => h) (Or.inr ⟨by rfl, rfl⟩) ?_; try simp only [Act.put, List.setIfInBounds_toArray, List.set_cons_zero, List.set_cons_succ]) | skip); (first | (refine takeG 4 (v := ?_) rfl (by decide +kernel) (by decide +kernel) (by decide +kernel) (fun _ _ _ h => h) (Or.inl ⟨by rfl, ?_⟩) ?_; rotate_left 1; (focus (intro W hW; go_simp; first | done | with_reducible rfl)); try simp only [Act.put, List.setIfInBounds_toArray, List.set_cons_zero, List.set_cons_succ]) | (refine takeG 4 rfl (by decide +kernel) (by decide +kernel) (by decide +kernel) (fun _ _ _ h => h) (Or.inr ⟨by rfl, rfl⟩) ?_; try simp only [Act.put, List.setIfInBounds_toArray, List.set_cons_zero, List.set_cons_succ]) | skip))
    refine stepG 2 rfl (by decide +kernel) (by rfl) ?_
    intro K hK
    go_simp
    refine (KS.out _ (rx _ (Gr.refl _)) (ry _ (Gr.refl _))).mono ?_
    rintro e w1 ⟨rfl, b1⟩
    refine hK _ _ b1 ?_
    clear hK K
    try simp only [Act.put, List.setIfInBounds_toArray, List.set_cons_zero, List.set_cons_succ]
    refine stepG 5 rfl (by decide +kernel) (by rfl) ?_
    intro K hK
    go_simp
    refine (KD.out _ (rx _ b1) (ry _ b1)).mono ?_
    rintro e w2 ⟨rfl, b2⟩
    refine hK _ _ b2 ?_
    clear hK K
    try simp only [Act.put, List.setIfInBounds_toArray, List.set_cons_zero, List.set_cons_succ]
    have g2 := Gr.trans b1 b2
    replace a0 := fun W (hW : Gr w2 W) => a0 W (Gr.trans g2 hW)
    replace a1 := fun W (hW : Gr w2 W) => a1 W (Gr.trans g2 hW)
    replace a2 := fun W (hW : Gr w2 W) => a2 W (Gr.trans g2 hW)
    replace a3 := fun W (hW : Gr w2 W) => a3 W (Gr.trans g2 hW)
    replace a4 := fun W (hW : Gr w2 W) => a4 W (Gr.trans g2 hW)
    replace a5 := fun W (hW : Gr w2 W) => a5 W (Gr.trans g2 hW)
    replace a6 := fun W (hW : Gr w2 W) => a6 W (Gr.trans g2 hW)
    replace a7 := fun W (hW : Gr w2 W) => a7 W (Gr.trans g2 hW)
    replace a8 := fun W (hW : Gr w2 W) => a8 W (Gr.trans g2 hW)
    replace a9 := fun W (hW : Gr w2 W) => a9 W (Gr.trans g2 hW)
    replace d0 := fun W (hW : Gr w2 W) => d0 W (Gr.trans g2 hW)
    replace d1 := fun W (hW : Gr w2 W) => d1 W (Gr.trans g2 hW)
    replace d2 := fun W (hW : Gr w2 W) => d2 W (Gr.trans g2 hW)
    replace d3 := fun W (hW : Gr w2 W) => d3 W (Gr.trans g2 hW)
    replace d4 := fun W (hW : Gr w2 W) => d4 W (Gr.trans g2 hW)
    replace d5 := fun W (hW : Gr w2 W) => d5 W (Gr.trans g2 hW)
    replace d6 := fun W (hW : Gr w2 W) => d6 W (Gr.trans g2 hW)
    replace d7 := fun W (hW : Gr w2 W) => d7 W (Gr.trans g2 hW)
    replace d8 := fun W (hW : Gr w2 W) => d8 W (Gr.trans g2 hW)
    replace d9 := fun W (hW : Gr w2 W) => d9 W (Gr.trans g2 hW)
    ((first | (refine takeG 6 (v := ?_) rfl (by decide +kernel) (by decide +kernel) (by decide +kernel) (fun _ _ _ h => h) (Or.inl ⟨by rfl, ?_⟩) ?_; rotate_left 1; (focus (intro W hW; go_simp; first | done | with_reducible rfl)); try simp only [Act.put, List.setIfInBounds_toArray, List.set_cons_zero, List.set_cons_succ]) | (refine takeG 6 rfl (by decide +kernel) (by decide +kernel) (by decide +kernel) (fun _ _ _ h => h) (Or.inr ⟨by rfl, rfl⟩) ?_; try simp only [Act.put, List.setIfInBounds_toArray, List.set_cons_zero, List.set_cons_succ]) | skip); (first | (refine takeG 7 (v := ?_) rfl (by decide +kernel) (by decide +kernel) (by decide +kernel) (fun _ _ _ h => h) (Or.inl ⟨by rfl, ?_⟩) ?_; rotate_left 1; (focus (intro W hW; go_simp; first | done | with_reducible rfl)); try simp only [Act.put, List.setIfInBounds_toArray, List.set_cons_zero, List.set_cons_succ]) | (refine takeG 7 rfl (by decide +kernel) (by decide +kernel) (by decide +kernel) (fun _ _ _ h => h) (Or.inr ⟨by rfl, rfl⟩) ?_; try simp only [Act.put, List.setIfInBounds_toArray, List.set_cons_zero, List.set_cons_succ]) | skip); (first | (refine takeG 8 (v := ?_) rfl (by decide +kernel) (by decide +kernel) (by decide +kernel) (fun _ _ _ h => h) (Or.inl ⟨by rfl, ?_⟩) ?_; rotate_left 1; (focus (intro W hW; go_simp; first | done | with_reducible rfl)); try simp only [Act.put, List.setIfInBounds_toArray, List.set_cons_zero, List.set_cons_succ]) | (refine takeG 8 rfl (by decide +kernel) (by decide +kernel) (by decide +kernel) (fun _ _ _ h => h) (Or.inr ⟨by rfl, rfl⟩) ?_; try simp only [Act.put, List.setIfInBounds_toArray, List.set_cons_zero, List.set_cons_succ]) | skip); (first | (refine takeG 9 (v := ?_) rfl (by decide +kernel) (by decide +kernel) (by decide +kernel) (fun _ _ _ h => h) (Or.inl ⟨by rfl, ?_⟩) ?_; rotate_left 1; (focus (intro W hW; go_simp; first | done | with_reducible rfl)); try simp only [Act.put, List.setIfInBounds_toArray, List.set_cons_zero, List.set_cons_succ]) | (refine takeG 9 rfl (by decide +kernel) (by decide +kernel) (by decide +kernel) (fun _ _ _ h => h) (Or.inr ⟨by rfl, rfl⟩) ?_; try simp only [Act.put, List.setIfInBounds_toArray, List.set_cons_zero, List.set_cons_succ]) | skip); (first | (refine takeG 10 (v := ?_) rfl (by decide +kernel) (by decide +kernel) (by decide +kernel) (fun _ _ _ h => h) (Or.inl ⟨by rfl, ?_⟩) ?_; rotate_left 1; (focus (intro W hW; go_simp; first | done | with_reducible rfl)); try simp only [Act.put, List.setIfInBounds_toArray, List.set_cons_zero, List.set_cons_succ]) | (refine takeG 10 rfl (by decide +kernel) (by decide +kernel) (by decide +kernel) (fun _ _ _ h => h) (Or.inr ⟨by rfl, rfl⟩) ?_; try simp only [Act.put, List.setIfInBounds_toArray, List.set_cons_zero, List.set_cons_succ]) | skip); (first | (refine takeG 12 (v := ?_) rfl (by decide +kernel) (by decide +kernel) (by decide +kernel) (fun _ _ _ h => h) (Or.inl ⟨by rfl, ?_⟩) ?_; rotate_left 1; (focus (intro W hW; go_simp; first | done | with_reducible rfl)); try simp only [Act.put, List.setIfInBounds_toArray, List.set_cons_zero, List.set_cons_succ]) | (refine takeG 12 rfl (by decide +kernel) (by decide +kernel) (by decide +kernel) (fun _ _ _ h => h) (Or.inr ⟨by rfl, rfl⟩) ?_; try simp only [Act.put, List.setIfInBounds_toArray, List.set_cons_zero, List.set_cons_succ]) | skip); (first | (refine takeG 13 (v := ?_) rfl (by decide +kernel) (by decide +kernel) (by decide +kernel) (fun _ _ _ h => h) (Or.inl ⟨by rfl, ?_⟩) ?_; rotate_left 1; (focus (intro W hW; go_simp; first | done | with_reducible rfl)); try simp only [Act.put, List.setIfInBounds_toArray, List.set_cons_zero, List.set_cons_succ]) | (refine takeG 13 rfl (by decide +kernel) (by decide +kernel) (by decide +kernel) (fun _ _ _ h => h) (Or.inr ⟨by rfl, rfl⟩) ?_; try simp only [Act.put, List.setIfInBounds_toArray, List.set_cons_zero, List.set_cons_succ]) | skip))
    refine stepG 11 rfl (by decide +kernel) (by rfl) ?_
    intro K hK
    go_simp
    refine (KT.out _ (ry _ g2) (rx _ g2)).mono ?_
    rintro e w3 ⟨rfl, b3⟩
    refine hK _ _ b3 ?_
    clear hK K
    try simp only [Act.put, List.setIfInBounds_toArray, List.set_cons_zero, List.set_cons_succ]
    have g3 := Gr.trans g2 b3
    replace a0 := fun W (hW : Gr w3 W) => a0 W (Gr.trans b3 hW)
    replace a1 := fun W (hW : Gr w3 W) => a1 W (Gr.trans b3 hW)
    replace a2 := fun W (hW : Gr w3 W) => a2 W (Gr.trans b3 hW)
    replace a3 := fun W (hW : Gr w3 W) => a3 W (Gr.trans b3 hW)
    replace a4 := fun W (hW : Gr w3 W) => a4 W (Gr.trans b3 hW)
    replace a5 := fun W (hW : Gr w3 W) => a5 W (Gr.trans b3 hW)
    replace a6 := fun W (hW : Gr w3 W) => a6 W (Gr.trans b3 hW)
    replace a7 := fun W (hW : Gr w3 W) => a7 W (Gr.trans b3 hW)
    replace a8 := fun W (hW : Gr w3 W) => a8 W (Gr.trans b3 hW)
    replace a9 := fun W (hW : Gr w3 W) => a9 W (Gr.trans b3 hW)
    replace d0 := fun W (hW : Gr w3 W) => d0 W (Gr.trans b3 hW)
    replace d1 := fun W (hW : Gr w3 W) => d1 W (Gr.trans b3 hW)
    replace d2 := fun W (hW : Gr w3 W) => d2 W (Gr.trans b3 hW)
    replace d3 := fun W (hW : Gr w3 W) => d3 W (Gr.trans b3 hW)
    replace d4 := fun W (hW : Gr w3 W) => d4 W (Gr.trans b3 hW)
    replace d5 := fun W (hW : Gr w3 W) => d5 W (Gr.trans b3 hW)
    replace d6 := fun W (hW : Gr w3 W) => d6 W (Gr.trans b3 hW)
    replace d7 := fun W (hW : Gr w3 W) => d7 W (Gr.trans b3 hW)
    replace d8 := fun W (hW : Gr w3 W) => d8 W (Gr.trans b3 hW)
    replace d9 := fun W (hW : Gr w3 W) => d9 W (Gr.trans b3 hW)
    skip
    refine stepG 14 rfl (by decide +kernel) (by rfl) ?_
    intro K hK
    go_simp
    refine (KS.out _ (rx _ g3) (ry _ g3)).mono ?_
    rintro e w4 ⟨rfl, b4⟩
    refine hK _ _ b4 ?_
    clear hK K
    try simp only [Act.put, List.setIfInBounds_toArray, List.set_cons_zero, List.set_cons_succ]
    have g4 := Gr.trans g3 b4
    replace a0 := fun W (hW : Gr w4 W) => a0 W (Gr.trans b4 hW)
    replace a1 := fun W (hW : Gr w4 W) => a1 W (Gr.trans b4 hW)
    replace a2 := fun W (hW : Gr w4 W) => a2 W (Gr.trans b4 hW)
    replace a3 := fun W (hW : Gr w4 W) => a3 W (Gr.trans b4 hW)
    replace a4 := fun W (hW : Gr w4 W) => a4 W (Gr.trans b4 hW)
    replace a5 := fun W (hW : Gr w4 W) => a5 W (Gr.trans b4 hW)
    replace a6 := fun W (hW : Gr w4 W) => a6 W (Gr.trans b4 hW)
    replace a7 := fun W (hW : Gr w4 W) => a7 W (Gr.trans b4 hW)
    replace a8 := fun W (hW : Gr w4 W) => a8 W (Gr.trans b4 hW)
    replace a9 := fun W (hW : Gr w4 W) => a9 W (Gr.trans b4 hW)
    replace d0 := fun W (hW : Gr w4 W) => d0 W (Gr.trans b4 hW)
    replace d1 := fun W (hW : Gr w4 W) => d1 W (Gr.trans b4 hW)
    replace d2 := fun W (hW : Gr w4 W) => d2 W (Gr.trans b4 hW)
    replace d3 := fun W (hW : Gr w4 W) => d3 W (Gr.trans b4 hW)
    replace d4 := fun W (hW : Gr w4 W) => d4 W (Gr.trans b4 hW)
    replace d5 := fun W (hW : Gr w4 W) => d5 W (Gr.trans b4 hW)
    replace d6 := fun W (hW : Gr w4 W) => d6 W (Gr.trans b4 hW)
    replace d7 := fun W (hW : Gr w4 W) => d7 W (Gr.trans b4 hW)
    replace d8 := fun W (hW : Gr w4 W) => d8 W (Gr.trans b4 hW)
    replace d9 := fun W (hW : Gr w4 W) => d9 W (Gr.trans b4 hW)
    ((first | (refine takeG 15 (v := ?_) rfl (by decide +kernel) (by decide +kernel) (by decide +kernel) (fun _ _ _ h => h) (Or.inl ⟨by rfl, ?_⟩) ?_; rotate_left 1; (focus (intro W hW; go_simp; first | done | with_reducible rfl)); try simp only [Act.put, List.setIfInBounds_toArray, List.set_cons_zero, List.set_cons_succ]) | (refine takeG 15 rfl (by decide +kernel) (by decide +kernel) (by decide +kernel) (fun _ _ _ h => h) (Or.inr ⟨by rfl, rfl⟩) ?_; try simp only [Act.put, List.setIfInBounds_toArray, List.set_cons_zero, List.set_cons_succ]) | skip); (first | (refine takeG 16 (v := ?_) rfl (by decide +kernel) (by decide +kernel) (by decide +kernel) (fun _ _ _ h => h) (Or.inl ⟨by rfl, ?_⟩) ?_; rotate_left 1; (focus (intro W hW; go_simp; first | done | with_reducible rfl)); try simp only [Act.put, List.setIfInBounds_toArray, List.set_cons_zero, List.set_cons_succ]) | (refine takeG 16 rfl (by decide +kernel) (by decide +kernel) (by decide +kernel) (fun _ _ _ h => h) (Or.inr ⟨by rfl, rfl⟩) ?_; try simp only [Act.put, List.setIfInBounds_toArray, List.set_cons_zero, List.set_cons_succ]) | skip); (first | (refine takeG 17 (v := ?_) rfl (by decide +kernel) (by decide +kernel) (by decide +kernel) (fun _ _ _ h => h) (Or.inl ⟨by rfl, ?_⟩) ?_; rotate_left 1; (focus (intro W hW; go_simp; first | done | with_reducible rfl)); try simp only [Act.put, List.setIfInBounds_toArray, List.set_cons_zero, List.set_cons_succ]) | (refine takeG 17 rfl (by decide +kernel) (by decide +kernel) (by decide +kernel) (fun _ _ _ h => h) (Or.inr ⟨by rfl, rfl⟩) ?_; try simp only [Act.put, List.setIfInBounds_toArray, List.set_cons_zero, List.set_cons_succ]) | skip); (first | (refine takeG 18 (v := ?_) rfl (by decide +kernel) (by decide +kernel) (by decide +kernel) (fun _ _ _ h => h) (Or.inl ⟨by rfl, ?_⟩) ?_; rotate_left 1; (focus (intro W hW; go_simp; first | done | with_reducible rfl)); try simp only [Act.put, List.setIfInBounds_toArray, List.set_cons_zero, List.set_cons_succ]) | (refine takeG 18 rfl (by decide +kernel) (by decide +kernel) (by decide +kernel) (fun _ _ _ h => h) (Or.inr ⟨by rfl, rfl⟩) ?_; try simp only [Act.put, List.setIfInBounds_toArray, List.set_cons_zero, List.set_cons_succ]) | skip); (first | (refine takeG 19 (v := ?_) rfl (by decide +kernel) (by decide +kernel) (by decide +kernel) (fun _ _ _ h => h) (Or.inl ⟨by rfl, ?_⟩) ?_; rotate_left 1; (focus (intro W hW; go_simp; first | done | with_reducible rfl)); try simp only [Act.put, List.setIfInBounds_toArray, List.set_cons_zero, List.set_cons_succ]) | (refine takeG 19 rfl (by decide +kernel) (by decide +kernel) (by decide +kernel) (fun _ _ _ h => h) (Or.inr ⟨by rfl, rfl⟩) ?_; try simp only [Act.put, List.setIfInBounds_toArray, List.set_cons_zero, List.set_cons_succ]) | skip))
    refine stepG 20 rfl (by decide +kernel) (by rfl) ?_
    intro K hK
    go_simp
    refine (KA.out _ (rx _ g4)).mono ?_
    rintro e w5 ⟨rfl, b5⟩
    refine hK _ _ b5 ?_
    clear hK K
    try simp only [Act.put, List.setIfInBounds_toArray, List.set_cons_zero, List.set_cons_succ]
    have g5 := Gr.trans g4 b5
    ((first | (refine takeG 21 (v := ?_) rfl (by decide +kernel) (by decide +kernel) (by decide +kernel) (fun _ _ _ h => h) (Or.inl ⟨by rfl, ?_⟩) ?_; rotate_left 1; (focus (intro W hW; go_simp; first | done | with_reducible rfl)); try simp only [Act.put, List.setIfInBounds_toArray, List.set_cons_zero, List.set_cons_succ]) | (refine takeG 21 rfl (by decide +kernel) (by decide +kernel) (by decide +kernel) (fun _ _ _ h => h) (Or.inr ⟨by rfl, rfl⟩) ?_; try simp only [Act.put, List.setIfInBounds_toArray, List.set_cons_zero, List.set_cons_succ]) | skip); (first | (refine takeG 22 (v := ?_) rfl (by decide +kernel) (by decide +kernel) (by decide +kernel) (fun _ _ _ h => h) (Or.inl ⟨by rfl, ?_⟩) ?_; rotate_left 1; (focus (intro W hW; go_simp; first | done | with_reducible rfl)); try simp only [Act.put, List.setIfInBounds_toArray, List.set_cons_zero, List.set_cons_succ]) | (refine takeG 22 rfl (by decide +kernel) (by decide +kernel) (by decide +kernel) (fun _ _ _ h => h) (Or.inr ⟨by rfl, rfl⟩) ?_; try simp only [Act.put, List.setIfInBounds_toArray, List.set_cons_zero, List.set_cons_succ]) | skip))
    refine stepG 23 rfl (by decide +kernel) (by rfl) ?_
    intro K hK
    go_simp
    refine (lives_any _ (hL0h.out.below g5)).mono ?_
    rintro e w6 ⟨rfl, b6⟩
    refine hK _ _ b6 ?_
    clear hK K
    try simp only [Act.put, List.setIfInBounds_toArray, List.set_cons_zero, List.set_cons_succ]
    have g6 := Gr.trans g5 b6
    ((first | (refine takeG 24 (v := ?_) rfl (by decide +kernel) (by decide +kernel) (by decide +kernel) (fun _ _ _ h => h) (Or.inl ⟨by rfl, ?_⟩) ?_; rotate_left 1; (focus (intro W hW; go_simp; first | done | with_reducible rfl)); try simp only [Act.put, List.setIfInBounds_toArray, List.set_cons_zero, List.set_cons_succ]) | (refine takeG 24 rfl (by decide +kernel) (by decide +kernel) (by decide +kernel) (fun _ _ _ h => h) (Or.inr ⟨by rfl, rfl⟩) ?_; try simp only [Act.put, List.setIfInBounds_toArray, List.set_cons_zero, List.set_cons_succ]) | skip); (first | (refine takeG 25 (v := ?_) rfl (by decide +kernel) (by decide +kernel) (by decide +kernel) (fun _ _ _ h => h) (Or.inl ⟨by rfl, ?_⟩) ?_; rotate_left 1; (focus (intro W hW; go_simp; first | done | with_reducible rfl)); try simp only [Act.put, List.setIfInBounds_toArray, List.set_cons_zero, List.set_cons_succ]) | (refine takeG 25 rfl (by decide +kernel) (by decide +kernel) (by decide +kernel) (fun _ _ _ h => h) (Or.inr ⟨by rfl, rfl⟩) ?_; try simp only [Act.put, List.setIfInBounds_toArray, List.set_cons_zero, List.set_cons_succ]) | skip))
    refine doneG (by kernel_rfl) ?_
    have hbf := Lib.hid (hBh.out.trans (g6.mono hBh.out.size))
    clear g2 g3 g4 g5 g6 b1 b2 b3 b4 b5 b6 rx ry
    clear a0 a1 a2 a3 a4 a5 a6 a7 a8 a9 d0 d1 d2 d3 d4 d5 d6 d7 d8 d9
    go_wp2
    go_ret
    exact ⟨rfl, hbf.out⟩
  · skip
    ((first | (refine takeG 0 (v := ?_) rfl (by decide +kernel) (by decide +kernel) (by decide +kernel) (fun _ _ _ h => h) (Or.inl ⟨by rfl, ?_⟩) ?_; rotate_left 1; (focus (intro W hW; go_simp; first | done | with_reducible rfl)); try simp only [Act.put, List.setIfInBounds_toArray, List.set_cons_zero, List.set_cons_succ]) | (refine takeG 0 rfl (by decide +kernel) (by decide +kernel) (by decide +kernel) (fun _ _ _ h => h) (Or.inr ⟨by rfl, rfl⟩) ?_; try simp only [Act.put, List.setIfInBounds_toArray, List.set_cons_zero, List.set_cons_succ]) | skip); (first | (refine takeG 1 (v := ?_) rfl (by decide +kernel) (by decide +kernel) (by decide +kernel) (fun _ _ _ h => h) (Or.inl ⟨by rfl, ?_⟩) ?_; rotate_left 1; (focus (intro W hW; go_simp; first | done | with_reducible rfl)); try simp only [Act.put, List.setIfInBounds_toArray, List.set_cons_zero, List.set_cons_succ]) | (refine takeG 1 rfl (by decide +kernel) (by decide +kernel) (by decide +kernel) (fun _ _ _ h => h) (Or.inr ⟨by rfl, rfl⟩) ?_; try simp only [Act.put, List.setIfInBounds_toArray, List.set_cons_zero, List.set_cons_succ]) | skip); (first | (refine takeG 3 (v := ?_) rfl (by decide +kernel) (by decide +kernel) (by decide +kernel) (fun _ _ _ h => h) (Or.inl ⟨by rfl, ?_⟩) ?_; rotate_left 1; (focus (intro W hW; go_simp; first | done | with_reducible rfl)); try simp only [Act.put, List.setIfInBounds_toArray, List.set_cons_zero, List.set_cons_succ]) | (refine takeG 3 rfl (by decide +kernel) (by decide +kernel) (by decide +kernel) (fun _ _ _ h => h) (Or.inr ⟨by rfl, rfl⟩) ?_; try simp only [Act.put, List.setIfInBounds_toArray, List.set_cons_zero, List.set_cons_succ]) | skip); (first | (refine takeG 4 (v := ?_) rfl (by decide +kernel) (by decide +kernel) (by decide +kernel) (fun _ _ _ h => h) (Or.inl ⟨by rfl, ?_⟩) ?_; rotate_left 1; (focus (intro W hW; go_simp; first | done | with_reducible rfl)); try simp only [Act.put, List.setIfInBounds_toArray, List.set_cons_zero, List.set_cons_succ]) | (refine takeG 4 rfl (by decide +kernel) (by decide +kernel) (by decide +kernel) (fun _ _ _ h => h) (Or.inr ⟨by rfl, rfl⟩) ?_; try simp only [Act.put, List.setIfInBounds_toArray, List.set_cons_zero, List.set_cons_succ]) | skip))
    refine stepG 2 rfl (by decide +kernel) (by rfl) ?_
    intro K hK
    go_simp
    refine (KS.out _ (rx _ (Gr.refl _)) (ry _ (Gr.refl _))).mono ?_
    rintro e w1 ⟨rfl, b1⟩
    refine hK _ _ b1 ?_
    clear hK K
    try simp only [Act.put, List.setIfInBounds_toArray, List.set_cons_zero, List.set_cons_succ]
    refine stepG 5 rfl (by decide +kernel) (by rfl) ?_
    intro K hK
    go_simp
    refine (KD.out _ (rx _ b1) (ry _ b1)).mono ?_
    rintro e w2 ⟨rfl, b2⟩
    refine hK _ _ b2 ?_
    clear hK K
    try simp only [Act.put, List.setIfInBounds_toArray, List.set_cons_zero, List.set_cons_succ]
    have g2 := Gr.trans b1 b2
    replace a0 := fun W (hW : Gr w2 W) => a0 W (Gr.trans g2 hW)
    replace a1 := fun W (hW : Gr w2 W) => a1 W (Gr.trans g2 hW)
    replace a2 := fun W (hW : Gr w2 W) => a2 W (Gr.trans g2 hW)
    replace a3 := fun W (hW : Gr w2 W) => a3 W (Gr.trans g2 hW)
    replace a4 := fun W (hW : Gr w2 W) => a4 W (Gr.trans g2 hW)
    replace a5 := fun W (hW : Gr w2 W) => a5 W (Gr.trans g2 hW)
    replace a6 := fun W (hW : Gr w2 W) => a6 W (Gr.trans g2 hW)
    replace a7 := fun W (hW : Gr w2 W) => a7 W (Gr.trans g2 hW)
    replace a8 := fun W (hW : Gr w2 W) => a8 W (Gr.trans g2 hW)
    replace a9 := fun W (hW : Gr w2 W) => a9 W (Gr.trans g2 hW)
    replace d0 := fun W (hW : Gr w2 W) => d0 W (Gr.trans g2 hW)
    replace d1 := fun W (hW : Gr w2 W) => d1 W (Gr.trans g2 hW)
    replace d2 := fun W (hW : Gr w2 W) => d2 W (Gr.trans g2 hW)
    replace d3 := fun W (hW : Gr w2 W) => d3 W (Gr.trans g2 hW)
    replace d4 := fun W (hW : Gr w2 W) => d4 W (Gr.trans g2 hW)
    replace d5 := fun W (hW : Gr w2 W) => d5 W (Gr.trans g2 hW)
    replace d6 := fun W (hW : Gr w2 W) => d6 W (Gr.trans g2 hW)
    replace d7 := fun W (hW : Gr w2 W) => d7 W (Gr.trans g2 hW)
    replace d8 := fun W (hW : Gr w2 W) => d8 W (Gr.trans g2 hW)
    replace d9 := fun W (hW : Gr w2 W) => d9 W (Gr.trans g2 hW)
    ((first | (refine takeG 6 (v := ?_) rfl (by decide +kernel) (by decide +kernel) (by decide +kernel) (fun _ _ _ h => h) (Or.inl ⟨by rfl, ?_⟩) ?_; rotate_left 1; (focus (intro W hW; go_simp; first | done | with_reducible rfl)); try simp only [Act.put, List.setIfInBounds_toArray, List.set_cons_zero, List.set_cons_succ]) | (refine takeG 6 rfl (by decide +kernel) (by decide +kernel) (by decide +kernel) (fun _ _ _ h => h) (Or.inr ⟨by rfl, rfl⟩) ?_; try simp only [Act.put, List.setIfInBounds_toArray, List.set_cons_zero, List.set_cons_succ]) | skip); (first | (refine takeG 7 (v := ?_) rfl (by decide +kernel) (by decide +kernel) (by decide +kernel) (fun _ _ _ h => h) (Or.inl ⟨by rfl, ?_⟩) ?_; rotate_left 1; (focus (intro W hW; go_simp; first | done | with_reducible rfl)); try simp only [Act.put, List.setIfInBounds_toArray, List.set_cons_zero, List.set_cons_succ]) | (refine takeG 7 rfl (by decide +kernel) (by decide +kernel) (by decide +kernel) (fun _ _ _ h => h) (Or.inr ⟨by rfl, rfl⟩) ?_; try simp only [Act.put, List.setIfInBounds_toArray, List.set_cons_zero, List.set_cons_succ]) | skip); (first | (refine takeG 8 (v := ?_) rfl (by decide +kernel) (by decide +kernel) (by decide +kernel) (fun _ _ _ h => h) (Or.inl ⟨by rfl, ?_⟩) ?_; rotate_left 1; (focus (intro W hW; go_simp; first | done | with_reducible rfl)); try simp only [Act.put, List.setIfInBounds_toArray, List.set_cons_zero, List.set_cons_succ]) | (refine takeG 8 rfl (by decide +kernel) (by decide +kernel) (by decide +kernel) (fun _ _ _ h => h) (Or.inr ⟨by rfl, rfl⟩) ?_; try simp only [Act.put, List.setIfInBounds_toArray, List.set_cons_zero, List.set_cons_succ]) | skip); (first | (refine takeG 9 (v := ?_) rfl (by decide +kernel) (by decide +kernel) (by decide +kernel) (fun _ _ _ h => h) (Or.inl ⟨by rfl, ?_⟩) ?_; rotate_left 1; (focus (intro W hW; go_simp; first | done | with_reducible rfl)); try simp only [Act.put, List.setIfInBounds_toArray, List.set_cons_zero, List.set_cons_succ]) | (refine takeG 9 rfl (by decide +kernel) (by decide +kernel) (by decide +kernel) (fun _ _ _ h => h) (Or.inr ⟨by rfl, rfl⟩) ?_; try simp only [Act.put, List.setIfInBounds_toArray, List.set_cons_zero, List.set_cons_succ]) | skip); (first | (refine takeG 10 (v := ?_) rfl (by decide +kernel) (by decide +kernel) (by decide +kernel) (fun _ _ _ h => h) (Or.inl ⟨by rfl, ?_⟩) ?_; rotate_left 1; (focus (intro W hW; go_simp; first | done | with_reducible rfl)); try simp only [Act.put, List.setIfInBounds_toArray, List.set_cons_zero, List.set_cons_succ]) | (refine takeG 10 rfl (by decide +kernel) (by decide +kernel) (by decide +kernel) (fun _ _ _ h => h) (Or.inr ⟨by rfl, rfl⟩) ?_; try simp only [Act.put, List.setIfInBounds_toArray, List.set_cons_zero, List.set_cons_succ]) | skip); (first | (refine takeG 12 (v := ?_) rfl (by decide +kernel) (by decide +kernel) (by decide +kernel) (fun _ _ _ h => h) (Or.inl ⟨by rfl, ?_⟩) ?_; rotate_left 1; (focus (intro W hW; go_simp; first | done | with_reducible rfl)); try simp only [Act.put, List.setIfInBounds_toArray, List.set_cons_zero, List.set_cons_succ]) | (refine takeG 12 rfl (by decide +kernel) (by decide +kernel) (by decide +kernel) (fun _ _ _ h => h) (Or.inr ⟨by rfl, rfl⟩) ?_; try simp only [Act.put, List.setIfInBounds_toArray, List.set_cons_zero, List.set_cons_succ]) | skip); (first | (refine takeG 13 (v := ?_) rfl (by decide +kernel) (by decide +kernel) (by decide +kernel) (fun _ _ _ h => h) (Or.inl ⟨by rfl, ?_⟩) ?_; rotate_left 1; (focus (intro W hW; go_simp; first | done | with_reducible rfl)); try simp only [Act.put, List.setIfInBounds_toArray, List.set_cons_zero, List.set_cons_succ]) | (refine takeG 13 rfl (by decide +kernel) (by decide +kernel) (by decide +kernel) (fun _ _ _ h => h) (Or.inr ⟨by rfl, rfl⟩) ?_; try simp only [Act.put, List.setIfInBounds_toArray, List.set_cons_zero, List.set_cons_succ]) | skip))
    refine stepG 11 rfl (by decide +kernel) (by rfl) ?_
    intro K hK
    go_simp
    refine (KT.out _ (ry _ g2) (rx _ g2)).mono ?_
    rintro e w3 ⟨rfl, b3⟩
    refine hK _ _ b3 ?_
    clear hK K
    try simp only [Act.put, List.setIfInBounds_toArray, List.set_cons_zero, List.set_cons_succ]
    have g3 := Gr.trans g2 b3
    replace a0 := fun W (hW : Gr w3 W) => a0 W (Gr.trans b3 hW)
    replace a1 := fun W (hW : Gr w3 W) => a1 W (Gr.trans b3 hW)
    replace a2 := fun W (hW : Gr w3 W) => a2 W (Gr.trans b3 hW)
    replace a3 := fun W (hW : Gr w3 W) => a3 W (Gr.trans b3 hW)
    replace a4 := fun W (hW : Gr w3 W) => a4 W (Gr.trans b3 hW)
    replace a5 := fun W (hW : Gr w3 W) => a5 W (Gr.trans b3 hW)
    replace a6 := fun W (hW : Gr w3 W) => a6 W (Gr.trans b3 hW)
    replace a7 := fun W (hW : Gr w3 W) => a7 W (Gr.trans b3 hW)
    replace a8 := fun W (hW : Gr w3 W) => a8 W (Gr.trans b3 hW)
    replace a9 := fun W (hW : Gr w3 W) => a9 W (Gr.trans b3 hW)
    replace d0 := fun W (hW : Gr w3 W) => d0 W (Gr.trans b3 hW)
    replace d1 := fun W (hW : Gr w3 W) => d1 W (Gr.trans b3 hW)
    replace d2 := fun W (hW : Gr w3 W) => d2 W (Gr.trans b3 hW)
    replace d3 := fun W (hW : Gr w3 W) => d3 W (Gr.trans b3 hW)
    replace d4 := fun W (hW : Gr w3 W) => d4 W (Gr.trans b3 hW)
    replace d5 := fun W (hW : Gr w3 W) => d5 W (Gr.trans b3 hW)
    replace d6 := fun W (hW : Gr w3 W) => d6 W (Gr.trans b3 hW)
    replace d7 := fun W (hW : Gr w3 W) => d7 W (Gr.trans b3 hW)
    replace d8 := fun W (hW : Gr w3 W) => d8 W (Gr.trans b3 hW)
    replace d9 := fun W (hW : Gr w3 W) => d9 W (Gr.trans b3 hW)
    skip
    refine stepG 14 rfl (by decide +kernel) (by rfl) ?_
    intro K hK
    go_simp
    refine (KS.out _ (rx _ g3) (ry _ g3)).mono ?_
    rintro e w4 ⟨rfl, b4⟩
    refine hK _ _ b4 ?_
    clear hK K
    try simp only [Act.put, List.setIfInBounds_toArray, List.set_cons_zero, List.set_cons_succ]
    have g4 := Gr.trans g3 b4
    replace a0 := fun W (hW : Gr w4 W) => a0 W (Gr.trans b4 hW)
    replace a1 := fun W (hW : Gr w4 W) => a1 W (Gr.trans b4 hW)
    replace a2 := fun W (hW : Gr w4 W) => a2 W (Gr.trans b4 hW)
    replace a3 := fun W (hW : Gr w4 W) => a3 W (Gr.trans b4 hW)
    replace a4 := fun W (hW : Gr w4 W) => a4 W (Gr.trans b4 hW)
    replace a5 := fun W (hW : Gr w4 W) => a5 W (Gr.trans b4 hW)
    replace a6 := fun W (hW : Gr w4 W) => a6 W (Gr.trans b4 hW)
    replace a7 := fun W (hW : Gr w4 W) => a7 W (Gr.trans b4 hW)
    replace a8 := fun W (hW : Gr w4 W) => a8 W (Gr.trans b4 hW)
    replace a9 := fun W (hW : Gr w4 W) => a9 W (Gr.trans b4 hW)
    replace d0 := fun W (hW : Gr w4 W) => d0 W (Gr.trans b4 hW)
    replace d1 := fun W (hW : Gr w4 W) => d1 W (Gr.trans b4 hW)
    replace d2 := fun W (hW : Gr w4 W) => d2 W (Gr.trans b4 hW)
    replace d3 := fun W (hW : Gr w4 W) => d3 W (Gr.trans b4 hW)
    replace d4 := fun W (hW : Gr w4 W) => d4 W (Gr.trans b4 hW)
    replace d5 := fun W (hW : Gr w4 W) => d5 W (Gr.trans b4 hW)
    replace d6 := fun W (hW : Gr w4 W) => d6 W (Gr.trans b4 hW)
    replace d7 := fun W (hW : Gr w4 W) => d7 W (Gr.trans b4 hW)
    replace d8 := fun W (hW : Gr w4 W) => d8 W (Gr.trans b4 hW)
    replace d9 := fun W (hW : Gr w4 W) => d9 W (Gr.trans b4 hW)
    ((first | (refine takeG 15 (v := ?_) rfl (by decide +kernel) (by decide +kernel) (by decide +kernel) (fun _ _ _ h => h) (Or.inl ⟨by rfl, ?_⟩) ?_; rotate_left 1; (focus (intro W hW; go_simp; first | done | with_reducible rfl)); try simp only [Act.put, List.setIfInBounds_toArray, List.set_cons_zero, List.set_cons_succ]) | (refine takeG 15 rfl (by decide +kernel) (by decide +kernel) (by decide +kernel) (fun _ _ _ h => h) (Or.inr ⟨by rfl, rfl⟩) ?_; try simp only [Act.put, List.setIfInBounds_toArray, List.set_cons_zero, List.set_cons_succ]) | skip); (first | (refine takeG 16 (v := ?_) rfl (by decide +kernel) (by decide +kernel) (by decide +kernel) (fun _ _ _ h => h) (Or.inl ⟨by rfl, ?_⟩) ?_; rotate_left 1; (focus (intro W hW; go_simp; first | done | with_reducible rfl)); try simp only [Act.put, List.setIfInBounds_toArray, List.set_cons_zero, List.set_cons_succ]) | (refine takeG 16 rfl (by decide +kernel) (by decide +kernel) (by decide +kernel) (fun _ _ _ h => h) (Or.inr ⟨by rfl, rfl⟩) ?_; try simp only [Act.put, List.setIfInBounds_toArray, List.set_cons_zero, List.set_cons_succ]) | skip); (first | (refine takeG 17 (v := ?_) rfl (by decide +kernel) (by decide +kernel) (by decide +kernel) (fun _ _ _ h => h) (Or.inl ⟨by rfl, ?_⟩) ?_; rotate_left 1; (focus (intro W hW; go_simp; first | done | with_reducible rfl)); try simp only [Act.put, List.setIfInBounds_toArray, List.set_cons_zero, List.set_cons_succ]) | (refine takeG 17 rfl (by decide +kernel) (by decide +kernel) (by decide +kernel) (fun _ _ _ h => h) (Or.inr ⟨by rfl, rfl⟩) ?_; try simp only [Act.put, List.setIfInBounds_toArray, List.set_cons_zero, List.set_cons_succ]) | skip); (first | (refine takeG 18 (v := ?_) rfl (by decide +kernel) (by decide +kernel) (by decide +kernel) (fun _ _ _ h => h) (Or.inl ⟨by rfl, ?_⟩) ?_; rotate_left 1; (focus (intro W hW; go_simp; first | done | with_reducible rfl)); try simp only [Act.put, List.setIfInBounds_toArray, List.set_cons_zero, List.set_cons_succ]) | (refine takeG 18 rfl (by decide +kernel) (by decide +kernel) (by decide +kernel) (fun _ _ _ h => h) (Or.inr ⟨by rfl, rfl⟩) ?_; try simp only [Act.put, List.setIfInBounds_toArray, List.set_cons_zero, List.set_cons_succ]) | skip); (first | (refine takeG 19 (v := ?_) rfl (by decide +kernel) (by decide +kernel) (by decide +kernel) (fun _ _ _ h => h) (Or.inl ⟨by rfl, ?_⟩) ?_; rotate_left 1; (focus (intro W hW; go_simp; first | done | with_reducible rfl)); try simp only [Act.put, List.setIfInBounds_toArray, List.set_cons_zero, List.set_cons_succ]) | (refine takeG 19 rfl (by decide +kernel) (by decide +kernel) (by decide +kernel) (fun _ _ _ h => h) (Or.inr ⟨by rfl, rfl⟩) ?_; try simp only [Act.put, List.setIfInBounds_toArray, List.set_cons_zero, List.set_cons_succ]) | skip))
    refine stepG 20 rfl (by decide +kernel) (by rfl) ?_
    intro K hK
    go_simp
    refine (KA.out _ (rx _ g4)).mono ?_
    rintro e w5 ⟨rfl, b5⟩
    refine hK _ _ b5 ?_
    clear hK K
    try simp only [Act.put, List.setIfInBounds_toArray, List.set_cons_zero, List.set_cons_succ]
    have g5 := Gr.trans g4 b5
    ((first | (refine takeG 21 (v := ?_) rfl (by decide +kernel) (by decide +kernel) (by decide +kernel) (fun _ _ _ h => h) (Or.inl ⟨by rfl, ?_⟩) ?_; rotate_left 1; (focus (intro W hW; go_simp; first | done | with_reducible rfl)); try simp only [Act.put, List.setIfInBounds_toArray, List.set_cons_zero, List.set_cons_succ]) | (refine takeG 21 rfl (by decide +kernel) (by decide +kernel) (by decide +kernel) (fun _ _ _ h => h) (Or.inr ⟨by rfl, rfl⟩) ?_; try simp only [Act.put, List.setIfInBounds_toArray, List.set_cons_zero, List.set_cons_succ]) | skip); (first | (refine takeG 22 (v := ?_) rfl (by decide +kernel) (by decide +kernel) (by decide +kernel) (fun _ _ _ h => h) (Or.inl ⟨by rfl, ?_⟩) ?_; rotate_left 1; (focus (intro W hW; go_simp; first | done | with_reducible rfl)); try simp only [Act.put, List.setIfInBounds_toArray, List.set_cons_zero, List.set_cons_succ]) | (refine takeG 22 rfl (by decide +kernel) (by decide +kernel) (by decide +kernel) (fun _ _ _ h => h) (Or.inr ⟨by rfl, rfl⟩) ?_; try simp only [Act.put, List.setIfInBounds_toArray, List.set_cons_zero, List.set_cons_succ]) | skip))
    refine stepG 23 rfl (by decide +kernel) (by rfl) ?_
    intro K hK
    go_simp
    refine (lives_any _ (hL0h.out.below g5)).mono ?_
    rintro e w6 ⟨rfl, b6⟩
    refine hK _ _ b6 ?_
    clear hK K
    try simp only [Act.put, List.setIfInBounds_toArray, List.set_cons_zero, List.set_cons_succ]
    have g6 := Gr.trans g5 b6
    ((first | (refine takeG 24 (v := ?_) rfl (by decide +kernel) (by decide +kernel) (by decide +kernel) (fun _ _ _ h => h) (Or.inl ⟨by rfl, ?_⟩) ?_; rotate_left 1; (focus (intro W hW; go_simp; first | done | with_reducible rfl)); try simp only [Act.put, List.setIfInBounds_toArray, List.set_cons_zero, List.set_cons_succ]) | (refine takeG 24 rfl (by decide +kernel) (by decide +kernel) (by decide +kernel) (fun _ _ _ h => h) (Or.inr ⟨by rfl, rfl⟩) ?_; try simp only [Act.put, List.setIfInBounds_toArray, List.set_cons_zero, List.set_cons_succ]) | skip); (first | (refine takeG 25 (v := ?_) rfl (by decide +kernel) (by decide +kernel) (by decide +kernel) (fun _ _ _ h => h) (Or.inl ⟨by rfl, ?_⟩) ?_; rotate_left 1; (focus (intro W hW; go_simp; first | done | with_reducible rfl)); try simp only [Act.put, List.setIfInBounds_toArray, List.set_cons_zero, List.set_cons_succ]) | (refine takeG 25 rfl (by decide +kernel) (by decide +kernel) (by decide +kernel) (fun _ _ _ h => h) (Or.inr ⟨by rfl, rfl⟩) ?_; try simp only [Act.put, List.setIfInBounds_toArray, List.set_cons_zero, List.set_cons_succ]) | skip))
    refine doneG (by kernel_rfl) ?_
    have hbf := Lib.hid (hBh.out.trans (g6.mono hBh.out.size))
    clear g2 g3 g4 g5 g6 b1 b2 b3 b4 b5 b6 rx ry
    clear a0 a1 a2 a3 a4 a5 a6 a7 a8 a9 d0 d1 d2 d3 d4 d5 d6 d7 d8 d9
    go_wp2
    go_ret
    exact ⟨rfl, hbf.out⟩

theorem lawSame_any (w : World) (hL : Laid w) (a b : Rg) (A A' : Option Addr) (c c' : Nat) (xs ys : List UInt8) (hx : Rd w w.heap.size A c xs) (hy : Rd w w.heap.size A' c' ys) (ha : a.data = .slice A xs.length c) (hb : b.data = .slice A' ys.length c') :
    Calls Tryd.prog 3 #[.agg (pcells a), .agg (pcells b)] w (ResB w true) := by
  by_cases h : 400 < xs.length ∨ 400 < ys.length
  · exact lawSame_skip w a b A A' _ c _ c' ha hb h
  · exact lawSame_in w hL a b A A' c c' xs ys hx hy ha hb (by omega) (by omega)

end Go.Proofs.YtjecjiikgejlaaaDoor

/-
  Helper text: the words of splits; no statement is proved here.
-/
import Derived.Test.YtfblpakoibadoaaDoorWords2
namespace Go.Proofs.YtfblpakoibadoaaDoor
open Go Go.RowKit

set_option maxHeartbeats 1600000 in
set_option maxRecDepth 100000 in
theorem split_false_false (w : World) (hL : Laid w) (h p k : Nat) (hh : h < 256) (hp : p < 256) (hk : k < 4) :
    Calls Tryd.prog 33 #[.agg #[.int .u8 (h : Int), .int .u8 (p : Int), .bool false, .bool false, .int .u8 (k : Int)]] w (ResW w ([[115, 116, 97, 114, 116], Lib.decDigits h ++ [46] ++ Lib.decDigits p, kindL.getD k []])) := by
  have HK := Lib.hid fun (W : World) (hLW : Laid W) => hLW.kind k hk
  generalize kindL.getD k [] = kd at HK ⊢
  have KP := Lib.hid fun W hLW => pair_any W hLW h p hh hp
  generalize Lib.decDigits h ++ [46] ++ Lib.decDigits p = ds at KP ⊢
  have hb0 : (World.drew (w.alloc (.cells #[.int .u8 (h : Int), .int .u8 (p : Int), .bool false, .bool false, .int .u8 (k : Int)] 26))).heap[w.heap.size]? = _ := heap_alloc_new w (.cells #[.int .u8 (h : Int), .int .u8 (p : Int), .bool false, .bool false, .int .u8 (k : Int)] 26)
  have hBW := ((Below.refl w.heap.size w).alloc (Nat.le_refl _) (.cells #[.int .u8 (h : Int), .int .u8 (p : Int), .bool false, .bool false, .int .u8 (k : Int)] 26)).drew
  have hL0 := hL.below hBW
  have hk4 : (k : Int) < 4 := by omega
  clear hL
  go_enter Tryd.func33, Tryd.ntmps33
  go_wp2
  refine startG 16 (l := #[false, false, false, false, false, false, false, false, false, false, false, false, false, false, false, false]) (by kernel_rfl) rfl rfl ?_
  change _root_.Go.Proofs.YtfblpakoibadoaaDoor.wpAnyG _ _ _ _ _ _ _ (World.drew (w.alloc (.cells #[.int .u8 (h : Int), .int .u8 (p : Int), .bool false, .bool false, .int .u8 (k : Int)] 26)))
  generalize World.drew (w.alloc (.cells #[.int .u8 (h : Int), .int .u8 (p : Int), .bool false, .bool false, .int .u8 (k : Int)] 26)) = W0 at hb0 hBW hL0 ⊢
  have c0 : ∀ W, Gr W0 W → W.cell? ⟨w.heap.size, 0, none⟩ = some (.int .u8 (h : Int)) := fun W hW => cell_at ((hW.block w.heap.size (lt_of_block hb0)).trans hb0) 0
  have c1 : ∀ W, Gr W0 W → W.cell? ⟨w.heap.size, 1, none⟩ = some (.int .u8 (p : Int)) := fun W hW => cell_at ((hW.block w.heap.size (lt_of_block hb0)).trans hb0) 1
  have c2 : ∀ W, Gr W0 W → W.cell? ⟨w.heap.size, 2, none⟩ = some (.bool false) := fun W hW => cell_at ((hW.block w.heap.size (lt_of_block hb0)).trans hb0) 2
  have c3 : ∀ W, Gr W0 W → W.cell? ⟨w.heap.size, 3, none⟩ = some (.bool false) := fun W hW => cell_at ((hW.block w.heap.size (lt_of_block hb0)).trans hb0) 3
  have c4 : ∀ W, Gr W0 W → W.cell? ⟨w.heap.size, 4, none⟩ = some (.int .u8 (k : Int)) := fun W hW => cell_at ((hW.block w.heap.size (lt_of_block hb0)).trans hb0) 4
  have hst : ∀ W, Gr W0 W → W.cell? ⟨1, 0, none⟩ = some (sv [115, 116, 97, 114, 116]) := fun W hW => (hL0.below hW).step 0 (by decide)
  have hkd : ∀ W, Gr W0 W → W.cell? ⟨2, k, none⟩ = some (sv kd) := fun W hW => HK.out W (hL0.below hW)
  have hBh := Lib.hid hBW
  have hLh := Lib.hid hL0
  clear hb0 hBW hL0 HK
  ((first | (refine takeG 0 (v := ?_) rfl (by decide +kernel) (by decide +kernel) (by decide +kernel) (fun _ _ _ h => h) (Or.inl ⟨by rfl, ?_⟩) ?_; rotate_left 1; (focus (intro W hW; go_simp; first | done | with_reducible rfl)); try simp only [Act.put, List.setIfInBounds_toArray, List.set_cons_zero, List.set_cons_succ]) | (refine takeG 0 rfl (by decide +kernel) (by decide +kernel) (by decide +kernel) (fun _ _ _ h => h) (Or.inr ⟨by rfl, rfl⟩) ?_; try simp only [Act.put, List.setIfInBounds_toArray, List.set_cons_zero, List.set_cons_succ]) | skip); (first | (refine takeG 1 (v := ?_) rfl (by decide +kernel) (by decide +kernel) (by decide +kernel) (fun _ _ _ h => h) (Or.inl ⟨by rfl, ?_⟩) ?_; rotate_left 1; (focus (intro W hW; go_simp; first | done | with_reducible rfl)); try simp only [Act.put, List.setIfInBounds_toArray, List.set_cons_zero, List.set_cons_succ]) | (refine takeG 1 rfl (by decide +kernel) (by decide +kernel) (by decide +kernel) (fun _ _ _ h => h) (Or.inr ⟨by rfl, rfl⟩) ?_; try simp only [Act.put, List.setIfInBounds_toArray, List.set_cons_zero, List.set_cons_succ]) | skip))
  ((first | (refine takeG 5 (v := ?_) rfl (by decide +kernel) (by decide +kernel) (by decide +kernel) (fun _ _ _ h => h) (Or.inl ⟨by rfl, ?_⟩) ?_; rotate_left 1; (focus (intro W hW; go_simp; first | done | with_reducible rfl)); try simp only [Act.put, List.setIfInBounds_toArray, List.set_cons_zero, List.set_cons_succ]) | (refine takeG 5 rfl (by decide +kernel) (by decide +kernel) (by decide +kernel) (fun _ _ _ h => h) (Or.inr ⟨by rfl, rfl⟩) ?_; try simp only [Act.put, List.setIfInBounds_toArray, List.set_cons_zero, List.set_cons_succ]) | skip); (first | (refine takeG 6 (v := ?_) rfl (by decide +kernel) (by decide +kernel) (by decide +kernel) (fun _ _ _ h => h) (Or.inl ⟨by rfl, ?_⟩) ?_; rotate_left 1; (focus (intro W hW; go_simp; first | done | with_reducible rfl)); try simp only [Act.put, List.setIfInBounds_toArray, List.set_cons_zero, List.set_cons_succ]) | (refine takeG 6 rfl (by decide +kernel) (by decide +kernel) (by decide +kernel) (fun _ _ _ h => h) (Or.inr ⟨by rfl, rfl⟩) ?_; try simp only [Act.put, List.setIfInBounds_toArray, List.set_cons_zero, List.set_cons_succ]) | skip); (first | (refine takeG 7 (v := ?_) rfl (by decide +kernel) (by decide +kernel) (by decide +kernel) (fun _ _ _ h => h) (Or.inl ⟨by rfl, ?_⟩) ?_; rotate_left 1; (focus (intro W hW; go_simp; first | done | with_reducible rfl)); try simp only [Act.put, List.setIfInBounds_toArray, List.set_cons_zero, List.set_cons_succ]) | (refine takeG 7 rfl (by decide +kernel) (by decide +kernel) (by decide +kernel) (fun _ _ _ h => h) (Or.inr ⟨by rfl, rfl⟩) ?_; try simp only [Act.put, List.setIfInBounds_toArray, List.set_cons_zero, List.set_cons_succ]) | skip); (first | (refine takeG 8 (v := ?_) rfl (by decide +kernel) (by decide +kernel) (by decide +kernel) (fun _ _ _ h => h) (Or.inl ⟨by rfl, ?_⟩) ?_; rotate_left 1; (focus (intro W hW; go_simp; first | done | with_reducible rfl)); try simp only [Act.put, List.setIfInBounds_toArray, List.set_cons_zero, List.set_cons_succ]) | (refine takeG 8 rfl (by decide +kernel) (by decide +kernel) (by decide +kernel) (fun _ _ _ h => h) (Or.inr ⟨by rfl, rfl⟩) ?_; try simp only [Act.put, List.setIfInBounds_toArray, List.set_cons_zero, List.set_cons_succ]) | skip))
  ((first | (refine takeG 10 (v := ?_) rfl (by decide +kernel) (by decide +kernel) (by decide +kernel) (fun _ _ _ h => h) (Or.inl ⟨by rfl, ?_⟩) ?_; rotate_left 1; (focus (intro W hW; go_simp; first | done | with_reducible rfl)); try simp only [Act.put, List.setIfInBounds_toArray, List.set_cons_zero, List.set_cons_succ]) | (refine takeG 10 rfl (by decide +kernel) (by decide +kernel) (by decide +kernel) (fun _ _ _ h => h) (Or.inr ⟨by rfl, rfl⟩) ?_; try simp only [Act.put, List.setIfInBounds_toArray, List.set_cons_zero, List.set_cons_succ]) | skip); (first | (refine takeG 11 (v := ?_) rfl (by decide +kernel) (by decide +kernel) (by decide +kernel) (fun _ _ _ h => h) (Or.inl ⟨by rfl, ?_⟩) ?_; rotate_left 1; (focus (intro W hW; go_simp; first | done | with_reducible rfl)); try simp only [Act.put, List.setIfInBounds_toArray, List.set_cons_zero, List.set_cons_succ]) | (refine takeG 11 rfl (by decide +kernel) (by decide +kernel) (by decide +kernel) (fun _ _ _ h => h) (Or.inr ⟨by rfl, rfl⟩) ?_; try simp only [Act.put, List.setIfInBounds_toArray, List.set_cons_zero, List.set_cons_succ]) | skip); (first | (refine takeG 12 (v := ?_) rfl (by decide +kernel) (by decide +kernel) (by decide +kernel) (fun _ _ _ h => h) (Or.inl ⟨by rfl, ?_⟩) ?_; rotate_left 1; (focus (intro W hW; go_simp; first | done | with_reducible rfl)); try simp only [Act.put, List.setIfInBounds_toArray, List.set_cons_zero, List.set_cons_succ]) | (refine takeG 12 rfl (by decide +kernel) (by decide +kernel) (by decide +kernel) (fun _ _ _ h => h) (Or.inr ⟨by rfl, rfl⟩) ?_; try simp only [Act.put, List.setIfInBounds_toArray, List.set_cons_zero, List.set_cons_succ]) | skip); (first | (refine takeG 13 (v := ?_) rfl (by decide +kernel) (by decide +kernel) (by decide +kernel) (fun _ _ _ h => h) (Or.inl ⟨by rfl, ?_⟩) ?_; rotate_left 1; (focus (intro W hW; go_simp; first | done | with_reducible rfl)); try simp only [Act.put, List.setIfInBounds_toArray, List.set_cons_zero, List.set_cons_succ]) | (refine takeG 13 rfl (by decide +kernel) (by decide +kernel) (by decide +kernel) (fun _ _ _ h => h) (Or.inr ⟨by rfl, rfl⟩) ?_; try simp only [Act.put, List.setIfInBounds_toArray, List.set_cons_zero, List.set_cons_succ]) | skip))
  refine stepG 2 rfl (by decide +kernel) (by rfl) ?_
  intro K hK
  go_simp
  refine (bit_any _ false).mono ?_
  rintro e w4 ⟨rfl, rfl⟩
  refine hK _ _ (Gr.refl _) ?_
  clear hK K
  try simp only [Act.put, List.setIfInBounds_toArray, List.set_cons_zero, List.set_cons_succ]
  ((first | (refine takeG 3 (v := ?_) rfl (by decide +kernel) (by decide +kernel) (by decide +kernel) (fun _ _ _ h => h) (Or.inl ⟨by rfl, ?_⟩) ?_; rotate_left 1; (focus (intro W hW; go_simp; first | done | with_reducible rfl)); try simp only [Act.put, List.setIfInBounds_toArray, List.set_cons_zero, List.set_cons_succ]) | (refine takeG 3 rfl (by decide +kernel) (by decide +kernel) (by decide +kernel) (fun _ _ _ h => h) (Or.inr ⟨by rfl, rfl⟩) ?_; try simp only [Act.put, List.setIfInBounds_toArray, List.set_cons_zero, List.set_cons_succ]) | skip); (first | (refine takeG 4 (v := ?_) rfl (by decide +kernel) (by decide +kernel) (by decide +kernel) (fun _ _ _ h => h) (Or.inl ⟨by rfl, ?_⟩) ?_; rotate_left 1; (focus (intro W hW; go_simp; first | done | with_reducible rfl)); try simp only [Act.put, List.setIfInBounds_toArray, List.set_cons_zero, List.set_cons_succ]) | (refine takeG 4 rfl (by decide +kernel) (by decide +kernel) (by decide +kernel) (fun _ _ _ h => h) (Or.inr ⟨by rfl, rfl⟩) ?_; try simp only [Act.put, List.setIfInBounds_toArray, List.set_cons_zero, List.set_cons_succ]) | skip))
  refine stepG 9 rfl (by decide +kernel) (by rfl) ?_
  intro K hK
  go_simp
  refine (KP.out _ hLh.out).mono ?_
  rintro e w5 ⟨rfl, b5⟩
  refine hK _ _ b5 ?_
  clear hK K
  try simp only [Act.put, List.setIfInBounds_toArray, List.set_cons_zero, List.set_cons_succ]
  refine stepG 14 rfl (by decide +kernel) (by rfl) ?_
  intro K hK
  go_simp
  have hbA := (Below.refl w5.heap.size w5).alloc (Nat.le_refl _) (.cells #[sv [115, 116, 97, 114, 116], sv ds, sv kd] 9)
  have hG := Gr.trans b5 hbA
  have d3 := c3 _ hG
  have hbel := Lib.hid (hBh.out.trans (hG.mono hBh.out.size))
  have hown : (w5.alloc (.cells #[sv [115, 116, 97, 114, 116], sv ds, sv kd] 9)).ownsRow w.heap.size 9 1 (.slice (some ⟨w5.heap.size, 0, none⟩) 3 3) ([[115, 116, 97, 114, 116], ds, kd] : List (List UInt8)).length (([[115, 116, 97, 114, 116], ds, kd] : List (List UInt8)).map sv) := own_base' (ownS_built w5 9 [[115, 116, 97, 114, 116], ds, kd] (by simp)) (Nat.le_trans hBh.out.size b5.size)
  have hownh := Lib.hid hown
  have hle := Lib.hid hbel.out.size
  refine hK _ _ hbA ?_
  clear hK K hbA hG hown
  generalize (w5.alloc (.cells #[sv [115, 116, 97, 114, 116], sv ds, sv kd] 9)) = W3 at hownh hbel hle d3 ⊢
  clear c0 c1 c2 c3 c4 hst hkd hBh hLh b5 KP
  generalize w5.heap.size = bk at hownh ⊢
  try simp only [Act.put, List.setIfInBounds_toArray, List.set_cons_zero, List.set_cons_succ]
  ((first | (refine takeG 15 (v := ?_) rfl (by decide +kernel) (by decide +kernel) (by decide +kernel) (fun _ _ _ h => h) (Or.inl ⟨by rfl, ?_⟩) ?_; rotate_left 1; (focus (intro W hW; go_simp; first | done | with_reducible rfl)); try simp only [Act.put, List.setIfInBounds_toArray, List.set_cons_zero, List.set_cons_succ]) | (refine takeG 15 rfl (by decide +kernel) (by decide +kernel) (by decide +kernel) (fun _ _ _ h => h) (Or.inr ⟨by rfl, rfl⟩) ?_; try simp only [Act.put, List.setIfInBounds_toArray, List.set_cons_zero, List.set_cons_succ]) | skip))
  refine doneG (by kernel_rfl) ?_
  go_wp2
  go_ret
  exact ⟨_, rfl, hownh.out, hbel.out⟩

set_option maxHeartbeats 1600000 in
set_option maxRecDepth 100000 in
theorem split_false_true (w : World) (hL : Laid w) (h p k : Nat) (hh : h < 256) (hp : p < 256) (hk : k < 4) :
    Calls Tryd.prog 33 #[.agg #[.int .u8 (h : Int), .int .u8 (p : Int), .bool false, .bool true, .int .u8 (k : Int)]] w (ResW w ([[115, 116, 97, 114, 116], Lib.decDigits h ++ [46] ++ Lib.decDigits p, kindL.getD k []] ++ [[108, 111, 119]])) := by
  have HK := Lib.hid fun (W : World) (hLW : Laid W) => hLW.kind k hk
  generalize kindL.getD k [] = kd at HK ⊢
  have KP := Lib.hid fun W hLW => pair_any W hLW h p hh hp
  generalize Lib.decDigits h ++ [46] ++ Lib.decDigits p = ds at KP ⊢
  have hb0 : (World.drew (w.alloc (.cells #[.int .u8 (h : Int), .int .u8 (p : Int), .bool false, .bool true, .int .u8 (k : Int)] 26))).heap[w.heap.size]? = _ := heap_alloc_new w (.cells #[.int .u8 (h : Int), .int .u8 (p : Int), .bool false, .bool true, .int .u8 (k : Int)] 26)
  have hBW := ((Below.refl w.heap.size w).alloc (Nat.le_refl _) (.cells #[.int .u8 (h : Int), .int .u8 (p : Int), .bool false, .bool true, .int .u8 (k : Int)] 26)).drew
  have hL0 := hL.below hBW
  have hk4 : (k : Int) < 4 := by omega
  clear hL
  go_enter Tryd.func33, Tryd.ntmps33
  go_wp2
  refine startG 16 (l := #[false, false, false, false, false, false, false, false, false, false, false, false, false, false, false, false]) (by kernel_rfl) rfl rfl ?_
  change _root_.Go.Proofs.YtfblpakoibadoaaDoor.wpAnyG _ _ _ _ _ _ _ (World.drew (w.alloc (.cells #[.int .u8 (h : Int), .int .u8 (p : Int), .bool false, .bool true, .int .u8 (k : Int)] 26)))
  generalize World.drew (w.alloc (.cells #[.int .u8 (h : Int), .int .u8 (p : Int), .bool false, .bool true, .int .u8 (k : Int)] 26)) = W0 at hb0 hBW hL0 ⊢
  have c0 : ∀ W, Gr W0 W → W.cell? ⟨w.heap.size, 0, none⟩ = some (.int .u8 (h : Int)) := fun W hW => cell_at ((hW.block w.heap.size (lt_of_block hb0)).trans hb0) 0
  have c1 : ∀ W, Gr W0 W → W.cell? ⟨w.heap.size, 1, none⟩ = some (.int .u8 (p : Int)) := fun W hW => cell_at ((hW.block w.heap.size (lt_of_block hb0)).trans hb0) 1
  have c2 : ∀ W, Gr W0 W → W.cell? ⟨w.heap.size, 2, none⟩ = some (.bool false) := fun W hW => cell_at ((hW.block w.heap.size (lt_of_block hb0)).trans hb0) 2
  have c3 : ∀ W, Gr W0 W → W.cell? ⟨w.heap.size, 3, none⟩ = some (.bool true) := fun W hW => cell_at ((hW.block w.heap.size (lt_of_block hb0)).trans hb0) 3
  have c4 : ∀ W, Gr W0 W → W.cell? ⟨w.heap.size, 4, none⟩ = some (.int .u8 (k : Int)) := fun W hW => cell_at ((hW.block w.heap.size (lt_of_block hb0)).trans hb0) 4
  have hst : ∀ W, Gr W0 W → W.cell? ⟨1, 0, none⟩ = some (sv [115, 116, 97, 114, 116]) := fun W hW => (hL0.below hW).step 0 (by decide)
  have hkd : ∀ W, Gr W0 W → W.cell? ⟨2, k, none⟩ = some (sv kd) := fun W hW => HK.out W (hL0.below hW)
  have hBh := Lib.hid hBW
  have hLh := Lib.hid hL0
  clear hb0 hBW hL0 HK
  ((first | (refine takeG 0 (v := ?_) rfl (by decide +kernel) (by decide +kernel) (by decide +kernel) (fun _ _ _ h => h) (Or.inl ⟨by rfl, ?_⟩) ?_; rotate_left 1; (focus (intro W hW; go_simp; first | done | with_reducible rfl)); try simp only [Act.put, List.setIfInBounds_toArray, List.set_cons_zero, List.set_cons_succ]) | (refine takeG 0 rfl (by decide +kernel) (by decide +kernel) (by decide +kernel) (fun _ _ _ h => h) (Or.inr ⟨by rfl, rfl⟩) ?_; try simp only [Act.put, List.setIfInBounds_toArray, List.set_cons_zero, List.set_cons_succ]) | skip); (first | (refine takeG 1 (v := ?_) rfl (by decide +kernel) (by decide +kernel) (by decide +kernel) (fun _ _ _ h => h) (Or.inl ⟨by rfl, ?_⟩) ?_; rotate_left 1; (focus (intro W hW; go_simp; first | done | with_reducible rfl)); try simp only [Act.put, List.setIfInBounds_toArray, List.set_cons_zero, List.set_cons_succ]) | (refine takeG 1 rfl (by decide +kernel) (by decide +kernel) (by decide +kernel) (fun _ _ _ h => h) (Or.inr ⟨by rfl, rfl⟩) ?_; try simp only [Act.put, List.setIfInBounds_toArray, List.set_cons_zero, List.set_cons_succ]) | skip))
  ((first | (refine takeG 5 (v := ?_) rfl (by decide +kernel) (by decide +kernel) (by decide +kernel) (fun _ _ _ h => h) (Or.inl ⟨by rfl, ?_⟩) ?_; rotate_left 1; (focus (intro W hW; go_simp; first | done | with_reducible rfl)); try simp only [Act.put, List.setIfInBounds_toArray, List.set_cons_zero, List.set_cons_succ]) | (refine takeG 5 rfl (by decide +kernel) (by decide +kernel) (by decide +kernel) (fun _ _ _ h => h) (Or.inr ⟨by rfl, rfl⟩) ?_; try simp only [Act.put, List.setIfInBounds_toArray, List.set_cons_zero, List.set_cons_succ]) | skip); (first | (refine takeG 6 (v := ?_) rfl (by decide +kernel) (by decide +kernel) (by decide +kernel) (fun _ _ _ h => h) (Or.inl ⟨by rfl, ?_⟩) ?_; rotate_left 1; (focus (intro W hW; go_simp; first | done | with_reducible rfl)); try simp only [Act.put, List.setIfInBounds_toArray, List.set_cons_zero, List.set_cons_succ]) | (refine takeG 6 rfl (by decide +kernel) (by decide +kernel) (by decide +kernel) (fun _ _ _ h => h) (Or.inr ⟨by rfl, rfl⟩) ?_; try simp only [Act.put, List.setIfInBounds_toArray, List.set_cons_zero, List.set_cons_succ]) | skip); (first | (refine takeG 7 (v := ?_) rfl (by decide +kernel) (by decide +kernel) (by decide +kernel) (fun _ _ _ h => h) (Or.inl ⟨by rfl, ?_⟩) ?_; rotate_left 1; (focus (intro W hW; go_simp; first | done | with_reducible rfl)); try simp only [Act.put, List.setIfInBounds_toArray, List.set_cons_zero, List.set_cons_succ]) | (refine takeG 7 rfl (by decide +kernel) (by decide +kernel) (by decide +kernel) (fun _ _ _ h => h) (Or.inr ⟨by rfl, rfl⟩) ?_; try simp only [Act.put, List.setIfInBounds_toArray, List.set_cons_zero, List.set_cons_succ]) | skip); (first | (refine takeG 8 (v := ?_) rfl (by decide +kernel) (by decide +kernel) (by decide +kernel) (fun _ _ _ h => h) (Or.inl ⟨by rfl, ?_⟩) ?_; rotate_left 1; (focus (intro W hW; go_simp; first | done | with_reducible rfl)); try simp only [Act.put, List.setIfInBounds_toArray, List.set_cons_zero, List.set_cons_succ]) | (refine takeG 8 rfl (by decide +kernel) (by decide +kernel) (by decide +kernel) (fun _ _ _ h => h) (Or.inr ⟨by rfl, rfl⟩) ?_; try simp only [Act.put, List.setIfInBounds_toArray, List.set_cons_zero, List.set_cons_succ]) | skip))
  ((first | (refine takeG 10 (v := ?_) rfl (by decide +kernel) (by decide +kernel) (by decide +kernel) (fun _ _ _ h => h) (Or.inl ⟨by rfl, ?_⟩) ?_; rotate_left 1; (focus (intro W hW; go_simp; first | done | with_reducible rfl)); try simp only [Act.put, List.setIfInBounds_toArray, List.set_cons_zero, List.set_cons_succ]) | (refine takeG 10 rfl (by decide +kernel) (by decide +kernel) (by decide +kernel) (fun _ _ _ h => h) (Or.inr ⟨by rfl, rfl⟩) ?_; try simp only [Act.put, List.setIfInBounds_toArray, List.set_cons_zero, List.set_cons_succ]) | skip); (first | (refine takeG 11 (v := ?_) rfl (by decide +kernel) (by decide +kernel) (by decide +kernel) (fun _ _ _ h => h) (Or.inl ⟨by rfl, ?_⟩) ?_; rotate_left 1; (focus (intro W hW; go_simp; first | done | with_reducible rfl)); try simp only [Act.put, List.setIfInBounds_toArray, List.set_cons_zero, List.set_cons_succ]) | (refine takeG 11 rfl (by decide +kernel) (by decide +kernel) (by decide +kernel) (fun _ _ _ h => h) (Or.inr ⟨by rfl, rfl⟩) ?_; try simp only [Act.put, List.setIfInBounds_toArray, List.set_cons_zero, List.set_cons_succ]) | skip); (first | (refine takeG 12 (v := ?_) rfl (by decide +kernel) (by decide +kernel) (by decide +kernel) (fun _ _ _ h => h) (Or.inl ⟨by rfl, ?_⟩) ?_; rotate_left 1; (focus (intro W hW; go_simp; first | done | with_reducible rfl)); try simp only [Act.put, List.setIfInBounds_toArray, List.set_cons_zero, List.set_cons_succ]) | (refine takeG 12 rfl (by decide +kernel) (by decide +kernel) (by decide +kernel) (fun _ _ _ h => h) (Or.inr ⟨by rfl, rfl⟩) ?_; try simp only [Act.put, List.setIfInBounds_toArray, List.set_cons_zero, List.set_cons_succ]) | skip); (first | (refine takeG 13 (v := ?_) rfl (by decide +kernel) (by decide +kernel) (by decide +kernel) (fun _ _ _ h => h) (Or.inl ⟨by rfl, ?_⟩) ?_; rotate_left 1; (focus (intro W hW; go_simp; first | done | with_reducible rfl)); try simp only [Act.put, List.setIfInBounds_toArray, List.set_cons_zero, List.set_cons_succ]) | (refine takeG 13 rfl (by decide +kernel) (by decide +kernel) (by decide +kernel) (fun _ _ _ h => h) (Or.inr ⟨by rfl, rfl⟩) ?_; try simp only [Act.put, List.setIfInBounds_toArray, List.set_cons_zero, List.set_cons_succ]) | skip))
  refine stepG 2 rfl (by decide +kernel) (by rfl) ?_
  intro K hK
  go_simp
  refine (bit_any _ false).mono ?_
  rintro e w4 ⟨rfl, rfl⟩
  refine hK _ _ (Gr.refl _) ?_
  clear hK K
  try simp only [Act.put, List.setIfInBounds_toArray, List.set_cons_zero, List.set_cons_succ]
  ((first | (refine takeG 3 (v := ?_) rfl (by decide +kernel) (by decide +kernel) (by decide +kernel) (fun _ _ _ h => h) (Or.inl ⟨by rfl, ?_⟩) ?_; rotate_left 1; (focus (intro W hW; go_simp; first | done | with_reducible rfl)); try simp only [Act.put, List.setIfInBounds_toArray, List.set_cons_zero, List.set_cons_succ]) | (refine takeG 3 rfl (by decide +kernel) (by decide +kernel) (by decide +kernel) (fun _ _ _ h => h) (Or.inr ⟨by rfl, rfl⟩) ?_; try simp only [Act.put, List.setIfInBounds_toArray, List.set_cons_zero, List.set_cons_succ]) | skip); (first | (refine takeG 4 (v := ?_) rfl (by decide +kernel) (by decide +kernel) (by decide +kernel) (fun _ _ _ h => h) (Or.inl ⟨by rfl, ?_⟩) ?_; rotate_left 1; (focus (intro W hW; go_simp; first | done | with_reducible rfl)); try simp only [Act.put, List.setIfInBounds_toArray, List.set_cons_zero, List.set_cons_succ]) | (refine takeG 4 rfl (by decide +kernel) (by decide +kernel) (by decide +kernel) (fun _ _ _ h => h) (Or.inr ⟨by rfl, rfl⟩) ?_; try simp only [Act.put, List.setIfInBounds_toArray, List.set_cons_zero, List.set_cons_succ]) | skip))
  refine stepG 9 rfl (by decide +kernel) (by rfl) ?_
  intro K hK
  go_simp
  refine (KP.out _ hLh.out).mono ?_
  rintro e w5 ⟨rfl, b5⟩
  refine hK _ _ b5 ?_
  clear hK K
  try simp only [Act.put, List.setIfInBounds_toArray, List.set_cons_zero, List.set_cons_succ]
  refine stepG 14 rfl (by decide +kernel) (by rfl) ?_
  intro K hK
  go_simp
  have hbA := (Below.refl w5.heap.size w5).alloc (Nat.le_refl _) (.cells #[sv [115, 116, 97, 114, 116], sv ds, sv kd] 9)
  have hG := Gr.trans b5 hbA
  have d3 := c3 _ hG
  have hbel := Lib.hid (hBh.out.trans (hG.mono hBh.out.size))
  have hown : (w5.alloc (.cells #[sv [115, 116, 97, 114, 116], sv ds, sv kd] 9)).ownsRow w.heap.size 9 1 (.slice (some ⟨w5.heap.size, 0, none⟩) 3 3) ([[115, 116, 97, 114, 116], ds, kd] : List (List UInt8)).length (([[115, 116, 97, 114, 116], ds, kd] : List (List UInt8)).map sv) := own_base' (ownS_built w5 9 [[115, 116, 97, 114, 116], ds, kd] (by simp)) (Nat.le_trans hBh.out.size b5.size)
  have hownh := Lib.hid hown
  have hle := Lib.hid hbel.out.size
  refine hK _ _ hbA ?_
  clear hK K hbA hG hown
  generalize (w5.alloc (.cells #[sv [115, 116, 97, 114, 116], sv ds, sv kd] 9)) = W3 at hownh hbel hle d3 ⊢
  clear c0 c1 c2 c3 c4 hst hkd hBh hLh b5 KP
  generalize w5.heap.size = bk at hownh ⊢
  try simp only [Act.put, List.setIfInBounds_toArray, List.set_cons_zero, List.set_cons_succ]
  ((first | (refine takeG 15 (v := ?_) rfl (by decide +kernel) (by decide +kernel) (by decide +kernel) (fun _ _ _ h => h) (Or.inl ⟨by rfl, ?_⟩) ?_; rotate_left 1; (focus (intro W hW; go_simp; first | done | with_reducible rfl)); try simp only [Act.put, List.setIfInBounds_toArray, List.set_cons_zero, List.set_cons_succ]) | (refine takeG 15 rfl (by decide +kernel) (by decide +kernel) (by decide +kernel) (fun _ _ _ h => h) (Or.inr ⟨by rfl, rfl⟩) ?_; try simp only [Act.put, List.setIfInBounds_toArray, List.set_cons_zero, List.set_cons_succ]) | skip))
  refine doneG (by kernel_rfl) ?_
  go_wp2_with (at_builtin; refine wpl_appendS1 (w := W3) Tryd.underlying48 Tryd.info9s rfl (.tmp 21) (.tmp 22) rfl w.heap.size (.slice (some ⟨bk, 0, none⟩) 3 3) [[115, 116, 97, 114, 116], ds, kd] rfl hownh.out [108, 111, 119] rfl (by simp) hle.out ?_; intro v' w' hown2 hbel2)
  go_ret
  exact ⟨_, rfl, hown2, hbel.out.trans hbel2⟩

set_option maxHeartbeats 1600000 in
set_option maxRecDepth 100000 in
theorem split_true_false (w : World) (hL : Laid w) (h p k : Nat) (hh : h < 256) (hp : p < 256) (hk : k < 4) :
    Calls Tryd.prog 33 #[.agg #[.int .u8 (h : Int), .int .u8 (p : Int), .bool true, .bool false, .int .u8 (k : Int)]] w (ResW w ([[99, 111, 109, 112, 108, 101, 116, 101], Lib.decDigits h ++ [46] ++ Lib.decDigits p, kindL.getD k []])) := by
  have HK := Lib.hid fun (W : World) (hLW : Laid W) => hLW.kind k hk
  generalize kindL.getD k [] = kd at HK ⊢
  have KP := Lib.hid fun W hLW => pair_any W hLW h p hh hp
  generalize Lib.decDigits h ++ [46] ++ Lib.decDigits p = ds at KP ⊢
  have hb0 : (World.drew (w.alloc (.cells #[.int .u8 (h : Int), .int .u8 (p : Int), .bool true, .bool false, .int .u8 (k : Int)] 26))).heap[w.heap.size]? = _ := heap_alloc_new w (.cells #[.int .u8 (h : Int), .int .u8 (p : Int), .bool true, .bool false, .int .u8 (k : Int)] 26)
  have hBW := ((Below.refl w.heap.size w).alloc (Nat.le_refl _) (.cells #[.int .u8 (h : Int), .int .u8 (p : Int), .bool true, .bool false, .int .u8 (k : Int)] 26)).drew
  have hL0 := hL.below hBW
  have hk4 : (k : Int) < 4 := by omega
  clear hL
  go_enter Tryd.func33, Tryd.ntmps33
  go_wp2
  refine startG 16 (l := #[false, false, false, false, false, false, false, false, false, false, false, false, false, false, false, false]) (by kernel_rfl) rfl rfl ?_
  change _root_.Go.Proofs.YtfblpakoibadoaaDoor.wpAnyG _ _ _ _ _ _ _ (World.drew (w.alloc (.cells #[.int .u8 (h : Int), .int .u8 (p : Int), .bool true, .bool false, .int .u8 (k : Int)] 26)))
  generalize World.drew (w.alloc (.cells #[.int .u8 (h : Int), .int .u8 (p : Int), .bool true, .bool false, .int .u8 (k : Int)] 26)) = W0 at hb0 hBW hL0 ⊢
  have c0 : ∀ W, Gr W0 W → W.cell? ⟨w.heap.size, 0, none⟩ = some (.int .u8 (h : Int)) := fun W hW => cell_at ((hW.block w.heap.size (lt_of_block hb0)).trans hb0) 0
  have c1 : ∀ W, Gr W0 W → W.cell? ⟨w.heap.size, 1, none⟩ = some (.int .u8 (p : Int)) := fun W hW => cell_at ((hW.block w.heap.size (lt_of_block hb0)).trans hb0) 1
  have c2 : ∀ W, Gr W0 W → W.cell? ⟨w.heap.size, 2, none⟩ = some (.bool true) := fun W hW => cell_at ((hW.block w.heap.size (lt_of_block hb0)).trans hb0) 2
  have c3 : ∀ W, Gr W0 W → W.cell? ⟨w.heap.size, 3, none⟩ = some (.bool false) := fun W hW => cell_at ((hW.block w.heap.size (lt_of_block hb0)).trans hb0) 3
  have c4 : ∀ W, Gr W0 W → W.cell? ⟨w.heap.size, 4, none⟩ = some (.int .u8 (k : Int)) := fun W hW => cell_at ((hW.block w.heap.size (lt_of_block hb0)).trans hb0) 4
  have hst : ∀ W, Gr W0 W → W.cell? ⟨1, 1, none⟩ = some (sv [99, 111, 109, 112, 108, 101, 116, 101]) := fun W hW => (hL0.below hW).step 1 (by decide)
  have hkd : ∀ W, Gr W0 W → W.cell? ⟨2, k, none⟩ = some (sv kd) := fun W hW => HK.out W (hL0.below hW)
  have hBh := Lib.hid hBW
  have hLh := Lib.hid hL0
  clear hb0 hBW hL0 HK
  ((first | (refine takeG 0 (v := ?_) rfl (by decide +kernel) (by decide +kernel) (by decide +kernel) (fun _ _ _ h => h) (Or.inl ⟨by rfl, ?_⟩) ?_; rotate_left 1; (focus (intro W hW; go_simp; first | done | with_reducible rfl)); try simp only [Act.put, List.setIfInBounds_toArray, List.set_cons_zero, List.set_cons_succ]) | (refine takeG 0 rfl (by decide +kernel) (by decide +kernel) (by decide +kernel) (fun _ _ _ h => h) (Or.inr ⟨by rfl, rfl⟩) ?_; try simp only [Act.put, List.setIfInBounds_toArray, List.set_cons_zero, List.set_cons_succ]) | skip); (first | (refine takeG 1 (v := ?_) rfl (by decide +kernel) (by decide +kernel) (by decide +kernel) (fun _ _ _ h => h) (Or.inl ⟨by rfl, ?_⟩) ?_; rotate_left 1; (focus (intro W hW; go_simp; first | done | with_reducible rfl)); try simp only [Act.put, List.setIfInBounds_toArray, List.set_cons_zero, List.set_cons_succ]) | (refine takeG 1 rfl (by decide +kernel) (by decide +kernel) (by decide +kernel) (fun _ _ _ h => h) (Or.inr ⟨by rfl, rfl⟩) ?_; try simp only [Act.put, List.setIfInBounds_toArray, List.set_cons_zero, List.set_cons_succ]) | skip))
  ((first | (refine takeG 5 (v := ?_) rfl (by decide +kernel) (by decide +kernel) (by decide +kernel) (fun _ _ _ h => h) (Or.inl ⟨by rfl, ?_⟩) ?_; rotate_left 1; (focus (intro W hW; go_simp; first | done | with_reducible rfl)); try simp only [Act.put, List.setIfInBounds_toArray, List.set_cons_zero, List.set_cons_succ]) | (refine takeG 5 rfl (by decide +kernel) (by decide +kernel) (by decide +kernel) (fun _ _ _ h => h) (Or.inr ⟨by rfl, rfl⟩) ?_; try simp only [Act.put, List.setIfInBounds_toArray, List.set_cons_zero, List.set_cons_succ]) | skip); (first | (refine takeG 6 (v := ?_) rfl (by decide +kernel) (by decide +kernel) (by decide +kernel) (fun _ _ _ h => h) (Or.inl ⟨by rfl, ?_⟩) ?_; rotate_left 1; (focus (intro W hW; go_simp; first | done | with_reducible rfl)); try simp only [Act.put, List.setIfInBounds_toArray, List.set_cons_zero, List.set_cons_succ]) | (refine takeG 6 rfl (by decide +kernel) (by decide +kernel) (by decide +kernel) (fun _ _ _ h => h) (Or.inr ⟨by rfl, rfl⟩) ?_; try simp only [Act.put, List.setIfInBounds_toArray, List.set_cons_zero, List.set_cons_succ]) | skip); (first | (refine takeG 7 (v := ?_) rfl (by decide +kernel) (by decide +kernel) (by decide +kernel) (fun _ _ _ h => h) (Or.inl ⟨by rfl, ?_⟩) ?_; rotate_left 1; (focus (intro W hW; go_simp; first | done | with_reducible rfl)); try simp only [Act.put, List.setIfInBounds_toArray, List.set_cons_zero, List.set_cons_succ]) | (refine takeG 7 rfl (by decide +kernel) (by decide +kernel) (by decide +kernel) (fun _ _ _ h => h) (Or.inr ⟨by rfl, rfl⟩) ?_; try simp only [Act.put, List.setIfInBounds_toArray, List.set_cons_zero, List.set_cons_succ]) | skip); (first | (refine takeG 8 (v := ?_) rfl (by decide +kernel) (by decide +kernel) (by decide +kernel) (fun _ _ _ h => h) (Or.inl ⟨by rfl, ?_⟩) ?_; rotate_left 1; (focus (intro W hW; go_simp; first | done | with_reducible rfl)); try simp only [Act.put, List.setIfInBounds_toArray, List.set_cons_zero, List.set_cons_succ]) | (refine takeG 8 rfl (by decide +kernel) (by decide +kernel) (by decide +kernel) (fun _ _ _ h => h) (Or.inr ⟨by rfl, rfl⟩) ?_; try simp only [Act.put, List.setIfInBounds_toArray, List.set_cons_zero, List.set_cons_succ]) | skip))
  ((first | (refine takeG 10 (v := ?_) rfl (by decide +kernel) (by decide +kernel) (by decide +kernel) (fun _ _ _ h => h) (Or.inl ⟨by rfl, ?_⟩) ?_; rotate_left 1; (focus (intro W hW; go_simp; first | done | with_reducible rfl)); try simp only [Act.put, List.setIfInBounds_toArray, List.set_cons_zero, List.set_cons_succ]) | (refine takeG 10 rfl (by decide +kernel) (by decide +kernel) (by decide +kernel) (fun _ _ _ h => h) (Or.inr ⟨by rfl, rfl⟩) ?_; try simp only [Act.put, List.setIfInBounds_toArray, List.set_cons_zero, List.set_cons_succ]) | skip); (first | (refine takeG 11 (v := ?_) rfl (by decide +kernel) (by decide +kernel) (by decide +kernel) (fun _ _ _ h => h) (Or.inl ⟨by rfl, ?_⟩) ?_; rotate_left 1; (focus (intro W hW; go_simp; first | done | with_reducible rfl)); try simp only [Act.put, List.setIfInBounds_toArray, List.set_cons_zero, List.set_cons_succ]) | (refine takeG 11 rfl (by decide +kernel) (by decide +kernel) (by decide +kernel) (fun _ _ _ h => h) (Or.inr ⟨by rfl, rfl⟩) ?_; try simp only [Act.put, List.setIfInBounds_toArray, List.set_cons_zero, List.set_cons_succ]) | skip); (first | (refine takeG 12 (v := ?_) rfl (by decide +kernel) (by decide +kernel) (by decide +kernel) (fun _ _ _ h => h) (Or.inl ⟨by rfl, ?_⟩) ?_; rotate_left 1; (focus (intro W hW; go_simp; first | done | with_reducible rfl)); try simp only [Act.put, List.setIfInBounds_toArray, List.set_cons_zero, List.set_cons_succ]) | (refine takeG 12 rfl (by decide +kernel) (by decide +kernel) (by decide +kernel) (fun _ _ _ h => h) (Or.inr ⟨by rfl, rfl⟩) ?_; try simp only [Act.put, List.setIfInBounds_toArray, List.set_cons_zero, List.set_cons_succ]) | skip); (first | (refine takeG 13 (v := ?_) rfl (by decide +kernel) (by decide +kernel) (by decide +kernel) (fun _ _ _ h => h) (Or.inl ⟨by rfl, ?_⟩) ?_; rotate_left 1; (focus (intro W hW; go_simp; first | done | with_reducible rfl)); try simp only [Act.put, List.setIfInBounds_toArray, List.set_cons_zero, List.set_cons_succ]) | (refine takeG 13 rfl (by decide +kernel) (by decide +kernel) (by decide +kernel) (fun _ _ _ h => h) (Or.inr ⟨by rfl, rfl⟩) ?_; try simp only [Act.put, List.setIfInBounds_toArray, List.set_cons_zero, List.set_cons_succ]) | skip))
  refine stepG 2 rfl (by decide +kernel) (by rfl) ?_
  intro K hK
  go_simp
  refine (bit_any _ true).mono ?_
  rintro e w4 ⟨rfl, rfl⟩
  refine hK _ _ (Gr.refl _) ?_
  clear hK K
  try simp only [Act.put, List.setIfInBounds_toArray, List.set_cons_zero, List.set_cons_succ]
  ((first | (refine takeG 3 (v := ?_) rfl (by decide +kernel) (by decide +kernel) (by decide +kernel) (fun _ _ _ h => h) (Or.inl ⟨by rfl, ?_⟩) ?_; rotate_left 1; (focus (intro W hW; go_simp; first | done | with_reducible rfl)); try simp only [Act.put, List.setIfInBounds_toArray, List.set_cons_zero, List.set_cons_succ]) | (refine takeG 3 rfl (by decide +kernel) (by decide +kernel) (by decide +kernel) (fun _ _ _ h => h) (Or.inr ⟨by rfl, rfl⟩) ?_; try simp only [Act.put, List.setIfInBounds_toArray, List.set_cons_zero, List.set_cons_succ]) | skip); (first | (refine takeG 4 (v := ?_) rfl (by decide +kernel) (by decide +kernel) (by decide +kernel) (fun _ _ _ h => h) (Or.inl ⟨by rfl, ?_⟩) ?_; rotate_left 1; (focus (intro W hW; go_simp; first | done | with_reducible rfl)); try simp only [Act.put, List.setIfInBounds_toArray, List.set_cons_zero, List.set_cons_succ]) | (refine takeG 4 rfl (by decide +kernel) (by decide +kernel) (by decide +kernel) (fun _ _ _ h => h) (Or.inr ⟨by rfl, rfl⟩) ?_; try simp only [Act.put, List.setIfInBounds_toArray, List.set_cons_zero, List.set_cons_succ]) | skip))
  refine stepG 9 rfl (by decide +kernel) (by rfl) ?_
  intro K hK
  go_simp
  refine (KP.out _ hLh.out).mono ?_
  rintro e w5 ⟨rfl, b5⟩
  refine hK _ _ b5 ?_
  clear hK K
  try simp only [Act.put, List.setIfInBounds_toArray, List.set_cons_zero, List.set_cons_succ]
  refine stepG 14 rfl (by decide +kernel) (by rfl) ?_
  intro K hK
  go_simp
  have hbA := (Below.refl w5.heap.size w5).alloc (Nat.le_refl _) (.cells #[sv [99, 111, 109, 112, 108, 101, 116, 101], sv ds, sv kd] 9)
  have hG := Gr.trans b5 hbA
  have d3 := c3 _ hG
  have hbel := Lib.hid (hBh.out.trans (hG.mono hBh.out.size))
  have hown : (w5.alloc (.cells #[sv [99, 111, 109, 112, 108, 101, 116, 101], sv ds, sv kd] 9)).ownsRow w.heap.size 9 1 (.slice (some ⟨w5.heap.size, 0, none⟩) 3 3) ([[99, 111, 109, 112, 108, 101, 116, 101], ds, kd] : List (List UInt8)).length (([[99, 111, 109, 112, 108, 101, 116, 101], ds, kd] : List (List UInt8)).map sv) := own_base' (ownS_built w5 9 [[99, 111, 109, 112, 108, 101, 116, 101], ds, kd] (by simp)) (Nat.le_trans hBh.out.size b5.size)
  have hownh := Lib.hid hown
  have hle := Lib.hid hbel.out.size
  refine hK _ _ hbA ?_
  clear hK K hbA hG hown
  generalize (w5.alloc (.cells #[sv [99, 111, 109, 112, 108, 101, 116, 101], sv ds, sv kd] 9)) = W3 at hownh hbel hle d3 ⊢
  clear c0 c1 c2 c3 c4 hst hkd hBh hLh b5 KP
  generalize w5.heap.size = bk at hownh ⊢
  try simp only [Act.put, List.setIfInBounds_toArray, List.set_cons_zero, List.set_cons_succ]
  ((first | (refine takeG 15 (v := ?_) rfl (by decide +kernel) (by decide +kernel) (by decide +kernel) (fun _ _ _ h => h) (Or.inl ⟨by rfl, ?_⟩) ?_; rotate_left 1; (focus (intro W hW; go_simp; first | done | with_reducible rfl)); try simp only [Act.put, List.setIfInBounds_toArray, List.set_cons_zero, List.set_cons_succ]) | (refine takeG 15 rfl (by decide +kernel) (by decide +kernel) (by decide +kernel) (fun _ _ _ h => h) (Or.inr ⟨by rfl, rfl⟩) ?_; try simp only [Act.put, List.setIfInBounds_toArray, List.set_cons_zero, List.set_cons_succ]) | skip))
  refine doneG (by kernel_rfl) ?_
  go_wp2
  go_ret
  exact ⟨_, rfl, hownh.out, hbel.out⟩

set_option maxHeartbeats 1600000 in
set_option maxRecDepth 100000 in
theorem split_true_true (w : World) (hL : Laid w) (h p k : Nat) (hh : h < 256) (hp : p < 256) (hk : k < 4) :
    Calls Tryd.prog 33 #[.agg #[.int .u8 (h : Int), .int .u8 (p : Int), .bool true, .bool true, .int .u8 (k : Int)]] w (ResW w ([[99, 111, 109, 112, 108, 101, 116, 101], Lib.decDigits h ++ [46] ++ Lib.decDigits p, kindL.getD k []] ++ [[108, 111, 119]])) := by
  have HK := Lib.hid fun (W : World) (hLW : Laid W) => hLW.kind k hk
  generalize kindL.getD k [] = kd at HK ⊢
  have KP := Lib.hid fun W hLW => pair_any W hLW h p hh hp
  generalize Lib.decDigits h ++ [46] ++ Lib.decDigits p = ds at KP ⊢
  have hb0 : (World.drew (w.alloc (.cells #[.int .u8 (h : Int), .int .u8 (p : Int), .bool true, .bool true, .int .u8 (k : Int)] 26))).heap[w.heap.size]? = _ := heap_alloc_new w (.cells #[.int .u8 (h : Int), .int .u8 (p : Int), .bool true, .bool true, .int .u8 (k : Int)] 26)
  have hBW := ((Below.refl w.heap.size w).alloc (Nat.le_refl _) (.cells #[.int .u8 (h : Int), .int .u8 (p : Int), .bool true, .bool true, .int .u8 (k : Int)] 26)).drew
  have hL0 := hL.below hBW
  have hk4 : (k : Int) < 4 := by omega
  clear hL
  go_enter Tryd.func33, Tryd.ntmps33
  go_wp2
  refine startG 16 (l := #[false, false, false, false, false, false, false, false, false, false, false, false, false, false, false, false]) (by kernel_rfl) rfl rfl ?_
  change _root_.Go.Proofs.YtfblpakoibadoaaDoor.wpAnyG _ _ _ _ _ _ _ (World.drew (w.alloc (.cells #[.int .u8 (h : Int), .int .u8 (p : Int), .bool true, .bool true, .int .u8 (k : Int)] 26)))
  generalize World.drew (w.alloc (.cells #[.int .u8 (h : Int), .int .u8 (p : Int), .bool true, .bool true, .int .u8 (k : Int)] 26)) = W0 at hb0 hBW hL0 ⊢
  have c0 : ∀ W, Gr W0 W → W.cell? ⟨w.heap.size, 0, none⟩ = some (.int .u8 (h : Int)) := fun W hW => cell_at ((hW.block w.heap.size (lt_of_block hb0)).trans hb0) 0
  have c1 : ∀ W, Gr W0 W → W.cell? ⟨w.heap.size, 1, none⟩ = some (.int .u8 (p : Int)) := fun W hW => cell_at ((hW.block w.heap.size (lt_of_block hb0)).trans hb0) 1
  have c2 : ∀ W, Gr W0 W → W.cell? ⟨w.heap.size, 2, none⟩ = some (.bool true) := fun W hW => cell_at ((hW.block w.heap.size (lt_of_block hb0)).trans hb0) 2
  have c3 : ∀ W, Gr W0 W → W.cell? ⟨w.heap.size, 3, none⟩ = some (.bool true) := fun W hW => cell_at ((hW.block w.heap.size (lt_of_block hb0)).trans hb0) 3
  have c4 : ∀ W, Gr W0 W → W.cell? ⟨w.heap.size, 4, none⟩ = some (.int .u8 (k : Int)) := fun W hW => cell_at ((hW.block w.heap.size (lt_of_block hb0)).trans hb0) 4
  have hst : ∀ W, Gr W0 W → W.cell? ⟨1, 1, none⟩ = some (sv [99, 111, 109, 112, 108, 101, 116, 101]) := fun W hW => (hL0.below hW).step 1 (by decide)
  have hkd : ∀ W, Gr W0 W → W.cell? ⟨2, k, none⟩ = some (sv kd) := fun W hW => HK.out W (hL0.below hW)
  have hBh := Lib.hid hBW
  have hLh := Lib.hid hL0
  clear hb0 hBW hL0 HK
  ((first | (refine takeG 0 (v := ?_) rfl (by decide +kernel) (by decide +kernel) (by decide +kernel) (fun _ _ _ h => h) (Or.inl ⟨by rfl, ?_⟩) ?_; rotate_left 1; (focus (intro W hW; go_simp; first | done | with_reducible rfl)); try simp only [Act.put, List.setIfInBounds_toArray, List.set_cons_zero, List.set_cons_succ]) | (refine takeG 0 rfl (by decide +kernel) (by decide +kernel) (by decide +kernel) (fun _ _ _ h => h) (Or.inr ⟨by rfl, rfl⟩) ?_; try simp only [Act.put, List.setIfInBounds_toArray, List.set_cons_zero, List.set_cons_succ]) | skip); (first | (refine takeG 1 (v := ?_) rfl (by decide +kernel) (by decide +kernel) (by decide +kernel) (fun _ _ _ h => h) (Or.inl ⟨by rfl, ?_⟩) ?_; rotate_left 1; (focus (intro W hW; go_simp; first | done | with_reducible rfl)); try simp only [Act.put, List.setIfInBounds_toArray, List.set_cons_zero, List.set_cons_succ]) | (refine takeG 1 rfl (by decide +kernel) (by decide +kernel) (by decide +kernel) (fun _ _ _ h => h) (Or.inr ⟨by rfl, rfl⟩) ?_; try simp only [Act.put, List.setIfInBounds_toArray, List.set_cons_zero, List.set_cons_succ]) | skip))
  ((first | (refine takeG 5 (v := ?_) rfl (by decide +kernel) (by decide +kernel) (by decide +kernel) (fun _ _ _ h => h) (Or.inl ⟨by rfl, ?_⟩) ?_; rotate_left 1; (focus (intro W hW; go_simp; first | done | with_reducible rfl)); try simp only [Act.put, List.setIfInBounds_toArray, List.set_cons_zero, List.set_cons_succ]) | (refine takeG 5 rfl (by decide +kernel) (by decide +kernel) (by decide +kernel) (fun _ _ _ h => h) (Or.inr ⟨by rfl, rfl⟩) ?_; try simp only [Act.put, List.setIfInBounds_toArray, List.set_cons_zero, List.set_cons_succ]) | skip); (first | (refine takeG 6 (v := ?_) rfl (by decide +kernel) (by decide +kernel) (by decide +kernel) (fun _ _ _ h => h) (Or.inl ⟨by rfl, ?_⟩) ?_; rotate_left 1; (focus (intro W hW; go_simp; first | done | with_reducible rfl)); try simp only [Act.put, List.setIfInBounds_toArray, List.set_cons_zero, List.set_cons_succ]) | (refine takeG 6 rfl (by decide +kernel) (by decide +kernel) (by decide +kernel) (fun _ _ _ h => h) (Or.inr ⟨by rfl, rfl⟩) ?_; try simp only [Act.put, List.setIfInBounds_toArray, List.set_cons_zero, List.set_cons_succ]) | skip); (first | (refine takeG 7 (v := ?_) rfl (by decide +kernel) (by decide +kernel) (by decide +kernel) (fun _ _ _ h => h) (Or.inl ⟨by rfl, ?_⟩) ?_; rotate_left 1; (focus (intro W hW; go_simp; first | done | with_reducible rfl)); try simp only [Act.put, List.setIfInBounds_toArray, List.set_cons_zero, List.set_cons_succ]) | (refine takeG 7 rfl (by decide +kernel) (by decide +kernel) (by decide +kernel) (fun _ _ _ h => h) (Or.inr ⟨by rfl, rfl⟩) ?_; try simp only [Act.put, List.setIfInBounds_toArray, List.set_cons_zero, List.set_cons_succ]) | skip); (first | (refine takeG 8 (v := ?_) rfl (by decide +kernel) (by decide +kernel) (by decide +kernel) (fun _ _ _ h => h) (Or.inl ⟨by rfl, ?_⟩) ?_; rotate_left 1; (focus (intro W hW; go_simp; first | done | with_reducible rfl)); try simp only [Act.put, List.setIfInBounds_toArray, List.set_cons_zero, List.set_cons_succ]) | (refine takeG 8 rfl (by decide +kernel) (by decide +kernel) (by decide +kernel) (fun _ _ _ h => h) (Or.inr ⟨by rfl, rfl⟩) ?_; try simp only [Act.put, List.setIfInBounds_toArray, List.set_cons_zero, List.set_cons_succ]) | skip))
  ((first | (refine takeG 10 (v := ?_) rfl (by decide +kernel) (by decide +kernel) (by decide +kernel) (fun _ _ _ h => h) (Or.inl ⟨by rfl, ?_⟩) ?_; rotate_left 1; (focus (intro W hW; go_simp; first | done | with_reducible rfl)); try simp only [Act.put, List.setIfInBounds_toArray, List.set_cons_zero, List.set_cons_succ]) | (refine takeG 10 rfl (by decide +kernel) (by decide +kernel) (by decide +kernel) (fun _ _ _ h => h) (Or.inr ⟨by rfl, rfl⟩) ?_; try simp only [Act.put, List.setIfInBounds_toArray, List.set_cons_zero, List.set_cons_succ]) | skip); (first | (refine takeG 11 (v := ?_) rfl (by decide +kernel) (by decide +kernel) (by decide +kernel) (fun _ _ _ h => h) (Or.inl ⟨by rfl, ?_⟩) ?_; rotate_left 1; (focus (intro W hW; go_simp; first | done | with_reducible rfl)); try simp only [Act.put, List.setIfInBounds_toArray, List.set_cons_zero, List.set_cons_succ]) | (refine takeG 11 rfl (by decide +kernel) (by decide +kernel) (by decide +kernel) (fun _ _ _ h => h) (Or.inr ⟨by rfl, rfl⟩) ?_; try simp only [Act.put, List.setIfInBounds_toArray, List.set_cons_zero, List.set_cons_succ]) | skip); (first | (refine takeG 12 (v := ?_) rfl (by decide +kernel) (by decide +kernel) (by decide +kernel) (fun _ _ _ h => h) (Or.inl ⟨by rfl, ?_⟩) ?_; rotate_left 1; (focus (intro W hW; go_simp; first | done | with_reducible rfl)); try simp only [Act.put, List.setIfInBounds_toArray, List.set_cons_zero, List.set_cons_succ]) | (refine takeG 12 rfl (by decide +kernel) (by decide +kernel) (by decide +kernel) (fun _ _ _ h => h) (Or.inr ⟨by rfl, rfl⟩) ?_; try simp only [Act.put, List.setIfInBounds_toArray, List.set_cons_zero, List.set_cons_succ]) | skip); (first | (refine takeG 13 (v := ?_) rfl (by decide +kernel) (by decide +kernel) (by decide +kernel) (fun _ _ _ h => h) (Or.inl ⟨by rfl, ?_⟩) ?_; rotate_left 1; (focus (intro W hW; go_simp; first | done | with_reducible rfl)); try simp only [Act.put, List.setIfInBounds_toArray, List.set_cons_zero, List.set_cons_succ]) | (refine takeG 13 rfl (by decide +kernel) (by decide +kernel) (by decide +kernel) (fun _ _ _ h => h) (Or.inr ⟨by rfl, rfl⟩) ?_; try simp only [Act.put, List.setIfInBounds_toArray, List.set_cons_zero, List.set_cons_succ]) | skip))
  refine stepG 2 rfl (by decide +kernel) (by rfl) ?_
  intro K hK
  go_simp
  refine (bit_any _ true).mono ?_
  rintro e w4 ⟨rfl, rfl⟩
  refine hK _ _ (Gr.refl _) ?_
  clear hK K
  try simp only [Act.put, List.setIfInBounds_toArray, List.set_cons_zero, List.set_cons_succ]
  ((first | (refine takeG 3 (v := ?_) rfl (by decide +kernel) (by decide +kernel) (by decide +kernel) (fun _ _ _ h => h) (Or.inl ⟨by rfl, ?_⟩) ?_; rotate_left 1; (focus (intro W hW; go_simp; first | done | with_reducible rfl)); try simp only [Act.put, List.setIfInBounds_toArray, List.set_cons_zero, List.set_cons_succ]) | (refine takeG 3 rfl (by decide +kernel) (by decide +kernel) (by decide +kernel) (fun _ _ _ h => h) (Or.inr ⟨by rfl, rfl⟩) ?_; try simp only [Act.put, List.setIfInBounds_toArray, List.set_cons_zero, List.set_cons_succ]) | skip); (first | (refine takeG 4 (v := ?_) rfl (by decide +kernel) (by decide +kernel) (by decide +kernel) (fun _ _ _ h => h) (Or.inl ⟨by rfl, ?_⟩) ?_; rotate_left 1; (focus (intro W hW; go_simp; first | done | with_reducible rfl)); try simp only [Act.put, List.setIfInBounds_toArray, List.set_cons_zero, List.set_cons_succ]) | (refine takeG 4 rfl (by decide +kernel) (by decide +kernel) (by decide +kernel) (fun _ _ _ h => h) (Or.inr ⟨by rfl, rfl⟩) ?_; try simp only [Act.put, List.setIfInBounds_toArray, List.set_cons_zero, List.set_cons_succ]) | skip))
  refine stepG 9 rfl (by decide +kernel) (by rfl) ?_
  intro K hK
  go_simp
  refine (KP.out _ hLh.out).mono ?_
  rintro e w5 ⟨rfl, b5⟩
  refine hK _ _ b5 ?_
  clear hK K
  try simp only [Act.put, List.setIfInBounds_toArray, List.set_cons_zero, List.set_cons_succ]
  refine stepG 14 rfl (by decide +kernel) (by rfl) ?_
  intro K hK
  go_simp
  have hbA := (Below.refl w5.heap.size w5).alloc (Nat.le_refl _) (.cells #[sv [99, 111, 109, 112, 108, 101, 116, 101], sv ds, sv kd] 9)
  have hG := Gr.trans b5 hbA
  have d3 := c3 _ hG
  have hbel := Lib.hid (hBh.out.trans (hG.mono hBh.out.size))
  have hown : (w5.alloc (.cells #[sv [99, 111, 109, 112, 108, 101, 116, 101], sv ds, sv kd] 9)).ownsRow w.heap.size 9 1 (.slice (some ⟨w5.heap.size, 0, none⟩) 3 3) ([[99, 111, 109, 112, 108, 101, 116, 101], ds, kd] : List (List UInt8)).length (([[99, 111, 109, 112, 108, 101, 116, 101], ds, kd] : List (List UInt8)).map sv) := own_base' (ownS_built w5 9 [[99, 111, 109, 112, 108, 101, 116, 101], ds, kd] (by simp)) (Nat.le_trans hBh.out.size b5.size)
  have hownh := Lib.hid hown
  have hle := Lib.hid hbel.out.size
  refine hK _ _ hbA ?_
  clear hK K hbA hG hown
  generalize (w5.alloc (.cells #[sv [99, 111, 109, 112, 108, 101, 116, 101], sv ds, sv kd] 9)) = W3 at hownh hbel hle d3 ⊢
  clear c0 c1 c2 c3 c4 hst hkd hBh hLh b5 KP
  generalize w5.heap.size = bk at hownh ⊢
  try simp only [Act.put, List.setIfInBounds_toArray, List.set_cons_zero, List.set_cons_succ]
  ((first | (refine takeG 15 (v := ?_) rfl (by decide +kernel) (by decide +kernel) (by decide +kernel) (fun _ _ _ h => h) (Or.inl ⟨by rfl, ?_⟩) ?_; rotate_left 1; (focus (intro W hW; go_simp; first | done | with_reducible rfl)); try simp only [Act.put, List.setIfInBounds_toArray, List.set_cons_zero, List.set_cons_succ]) | (refine takeG 15 rfl (by decide +kernel) (by decide +kernel) (by decide +kernel) (fun _ _ _ h => h) (Or.inr ⟨by rfl, rfl⟩) ?_; try simp only [Act.put, List.setIfInBounds_toArray, List.set_cons_zero, List.set_cons_succ]) | skip))
  refine doneG (by kernel_rfl) ?_
  go_wp2_with (at_builtin; refine wpl_appendS1 (w := W3) Tryd.underlying48 Tryd.info9s rfl (.tmp 21) (.tmp 22) rfl w.heap.size (.slice (some ⟨bk, 0, none⟩) 3 3) [[99, 111, 109, 112, 108, 101, 116, 101], ds, kd] rfl hownh.out [108, 111, 119] rfl (by simp) hle.out ?_; intro v' w' hown2 hbel2)
  go_ret
  exact ⟨_, rfl, hown2, hbel.out.trans hbel2⟩

end Go.Proofs.YtfblpakoibadoaaDoor

/-
  Helper text: the examples of the chapter hold; no statement is proved here.
-/
import Derived.Test.YtjilbgdenolllaaLivesA
namespace Go.Proofs.Ytjilbgdenolllaa
open Go Go.RowKit

/-- The exchanges of the first example. -/
def es4 : List (Bool × Bool) := [(false, false), (false, true), (true, false), (false, false)]

set_option maxHeartbeats 8000000 in
set_option maxRecDepth 100000 in
theorem lives_any (w : World) : Calls Try.prog 11 #[] w (ResB w true) := by
  have KX : Hid (∀ (W : World) (A : Option Addr) (c : Nat), Rd W W.heap.size A c [0, 2, 1, 0] → Calls Try.prog 20 #[.slice A 4 c] W fun e w' => ∃ A' c', e = .returned (.slice A' 4 c') ∧ RdX w' w'.heap.size A' c' es4 ∧ Below W.heap.size W w') :=
    fun W A c h => exchanges_any W A c [0, 2, 1, 0] h (by simp)
  have Hs3 : ∀ j, (([[1], [2], [3]] : List (List UInt8)).getD j []).length ≤ 1 := fun j => by
    match j with
    | 0 => decide
    | 1 => decide
    | 2 => decide
    | n + 3 => simp [List.getD]
  have KN : Hid (∀ (W : World) (A : Option Addr) (c : Nat), Rds W W.heap.size A c [[1], [2], [3]] → Calls Try.prog 10 #[.slice A 3 c] W (ResSE W false [[1], [2], [3]])) :=
    fun W A c h => new_good W A c [[1], [2], [3]] h (by decide) fun j => by have := Hs3 j; omega
  have hx0 : SmlP ⟨false, [[1], [2], [3]], false, []⟩ := ⟨fun j => by have := Hs3 j; show (([[1], [2], [3]] : List (List UInt8)).getD j []).length ≤ _; omega, fun j => by simp [List.getD], by decide⟩
  have KR : Hid (∀ (W : World) (A A2 : Option Addr) (c c2 : Nat), Rds W W.heap.size A c [[1], [2], [3]] → RdX W W.heap.size A2 c2 es4 → Calls Try.prog 19 #[sv false (.slice A 3 c), sv false (.slice none 0 0), .slice A2 4 c2] W (ResR W ⟨false, [[3]], false, [[1], [2]]⟩)) := by
    intro W A A2 c c2 h h2
    have := run_any W ⟨false, [[1], [2], [3]], false, []⟩ A c none 0 A2 c2 es4 h (Rds.nil _ _) h2 hx0 (by decide)
    rw [show runP ⟨false, [[1], [2], [3]], false, []⟩ es4 = ⟨false, [[3]], false, [[1], [2]]⟩ from rfl] at this
    exact this
  have KX2 : Hid (∀ (W : World) (A : Option Addr) (c : Nat), Rd W W.heap.size A c [2] → Calls Try.prog 20 #[.slice A 1 c] W fun e w' => ∃ A' c', e = .returned (.slice A' 1 c') ∧ RdX w' w'.heap.size A' c' [(false, true)] ∧ Below W.heap.size W w') :=
    fun W A c h => exchanges_any W A c [2] h (by simp)
  have KR2 : Hid (∀ (W : World) (A A2 : Option Addr) (c c2 : Nat), Rds W W.heap.size A c [[1], [2], [3]] → RdX W W.heap.size A2 c2 [(false, true)] → Calls Try.prog 19 #[sv false (.slice A 3 c), sv false (.slice none 0 0), .slice A2 1 c2] W (ResR W ⟨false, [[1], [2], [3]], true, [[1]]⟩)) := by
    intro W A A2 c c2 h h2
    have := run_any W ⟨false, [[1], [2], [3]], false, []⟩ A c none 0 A2 c2 [(false, true)] h (Rds.nil _ _) h2 hx0 (by decide)
    rw [show runP ⟨false, [[1], [2], [3]], false, []⟩ [(false, true)] = ⟨false, [[1], [2], [3]], true, [[1]]⟩ from rfl] at this
    exact this
  have hx1 : SmlP ⟨false, [[1], [2], [3]], false, [[1]]⟩ := ⟨fun j => by have := Hs3 j; show (([[1], [2], [3]] : List (List UInt8)).getD j []).length ≤ _; omega, fun j => (sml_of (ps := [[1]]) (by decide) (by decide)).1.2 j, by decide⟩
  have KR3 : Hid (∀ (W : World) (A A' A2 : Option Addr) (c c' c2 : Nat), Rds W W.heap.size A c [[1], [2], [3]] → Rds W W.heap.size A' c' [[1]] → RdX W W.heap.size A2 c2 [(false, false)] → Calls Try.prog 19 #[sv false (.slice A 3 c), sv false (.slice A' 1 c'), .slice A2 1 c2] W (ResR W ⟨true, [[2], [3]], true, [[1], [1]]⟩)) := by
    intro W A A' A2 c c' c2 h h' h2
    have := run_any W ⟨false, [[1], [2], [3]], false, [[1]]⟩ A c A' c' A2 c2 [(false, false)] h h' h2 hx1 (by decide)
    rw [show runP ⟨false, [[1], [2], [3]], false, [[1]]⟩ [(false, false)] = ⟨true, [[2], [3]], true, [[1], [1]]⟩ from rfl] at this
    exact this
  have KC : Hid (∀ (W : World) (t t2 : Bool) (A A' : Option Addr) (c c' : Nat), Rds W W.heap.size A c [[1], [2], [3]] → Rds W W.heap.size A' c' [[1]] → Calls Try.prog 16 #[sv t (.slice A 3 c), sv t2 (.slice A' 1 c')] W (ResR W ⟨false, [[1], [2], [3]], false, [[1]]⟩)) :=
    fun W t t2 A A' c c' h h' => clear_any W t t2 A A' c c' _ _ h h' (sml_of (by decide) (by decide)).1 (sml_of (by decide) (by decide)).1
  have KB : Hid (∀ (W : World) (A : Option Addr) (c : Nat), Rds W W.heap.size A c [List.replicate 1025 0] → Calls Try.prog 10 #[.slice A 1 c] W (ResNE W 3)) :=
    fun W A c h => new_long W A c [List.replicate 1025 0] h (by show 1 ≤ 4096; omega) 0 (by show 0 < 1; omega) (by show 1024 < (List.replicate 1025 (0 : UInt8)).length; rw [List.length_replicate]; omega) (fun j hj => absurd hj (by omega))
  have KH : Hid (∀ (W : World) (vb : Value), Calls Try.prog 15 #[sv false (.slice none 0 0), .bool true, vb] W fun e w' => ∃ g, e = .returned (.tuple #[sv false (.slice (some ⟨g, 0, none⟩) 0 0), .bool false]) ∧ Below W.heap.size W w') :=
    fun W vb => (hear_no W false none 0 [] (Rds.nil _ _) (sml_of (by decide) (by decide)).1 vb).mono fun e w' ⟨g, h1, _, h3⟩ => ⟨g, h1, h3⟩
  have hmk := fun W : World => make_full 1025 W (by omega) (by omega)
  rw [show (1025 : Int).toNat = 1025 from rfl] at hmk
  go_enter Try.func11, Try.ntmps11
  go_wp2_with fail
  have hbt := built3 w
  refine (KN.out _ _ 3 hbt.1).mono ?_
  rintro e w1 ⟨g, rfl, hn1, hb1⟩
  replace hb1 := Lib.hid (hbt.2.trans (hb1.mono hbt.2.size))
  replace hn1 := Lib.hid (hn1.mono (base' := w.heap.size) hbt.2.size)
  clear hbt
  go_wp2
  have hw0 : Hid (Below w.heap.size w (w1.alloc (.cells #[.bool false, .slice (some ⟨g, 0, none⟩) 3 3] 28))) := hb1.out.alloc hb1.out.size _
  have n0 : Hid (News (w1.alloc (.cells #[.bool false, .slice (some ⟨g, 0, none⟩) 3 3] 28)) w.heap.size g [[1], [2], [3]]) := hn1.out.below ((Below.refl _ _).alloc (Nat.le_refl _) _)
  have R0 : Hid (Rds (w1.alloc (.cells #[.bool false, .slice (some ⟨g, 0, none⟩) 3 3] 28)) (w1.alloc (.cells #[.bool false, .slice (some ⟨g, 0, none⟩) 3 3] 28)).heap.size (some ⟨g, 0, none⟩) 3 [[1], [2], [3]]) := n0.out.rds (sml_of (by decide) (by decide)).1
  have hb := Lib.hid (heap_alloc_new w1 (.cells #[.bool false, .slice (some ⟨g, 0, none⟩) 3 3] 28))
  clear hn1 hb1
  generalize w1.alloc (.cells #[.bool false, .slice (some ⟨g, 0, none⟩) 3 3] 28) = W0 at hw0 R0 n0 hb ⊢
  generalize w1.heap.size = b1 at hb ⊢
  refine region_inv (fun a₀ act w' => ∃ (g8 g9 ga gb : Nat) (v18 v19 v20 v21 v22 v17 v23 v24 : Value),
      act = (((((((((a₀.put (some 18) v18).put (some 19) v19).put (some 20) v20).put (some 21) v21).put (some 22) v22).put (some 17) v17).put (some 23) v23).put (some 24) v24).put (some 3) (.pointer (some ⟨g8, 0, none⟩))).put (some 4) (.pointer (some ⟨g9, 0, none⟩)) ∧
      Below W0.heap.size W0 w' ∧ w'.heap[g8]? = some (.cells #[.bool false, .slice (some ⟨ga, 0, none⟩) 1 1] 28 (0, 0)) ∧ w'.heap[g9]? = some (.cells #[.bool false, .slice (some ⟨gb, 0, none⟩) 2 2] 39 (0, 0)) ∧
      News w' W0.heap.size ga [[3]] ∧ News w' W0.heap.size gb [[1], [2]] ∧ W0.heap.size ≤ g8 ∧ W0.heap.size ≤ g9) ?_ ?_
  · have hbl := block_lt hb.out
    have e0 := block_at hb.out (i := 0) (v := .bool false) rfl
    have e1 := block_at hb.out (i := 1) (v := .slice (some ⟨g, 0, none⟩) 3 3) rfl
    refine startT (S := fun a => a.block < W0.heap.size) (T := []) 12 (by kernel_rfl) rfl (l := #[false, false, false, false, false, false, false, false, false, false, false, false]) rfl ?_
    have hW : Below W0.heap.size W0 W0.drew := (Below.refl _ _).drew
    ((first | (refine takeT 0 (v := ?_) rfl (by decide +kernel) (by decide +kernel) (by decide +kernel) (fun _ _ _ h => h) (by decide +kernel) (Or.inl ⟨by rfl, ?_⟩) ?_; rotate_left 1; (focus (intro W hW; have hcW := hW.at; (try dsimp only at hcW); go_simp; first | done | with_reducible rfl)); try simp only [Act.put, List.setIfInBounds_toArray, List.set_cons_zero, List.set_cons_succ]) | (refine takeW 0 (v := ?_) rfl (by decide +kernel) (by decide +kernel) (by decide +kernel) (fun _ _ _ h => h) (Or.inl ⟨by rfl, ?_⟩) ?_; rotate_left 1; (focus (intro W hW; go_simp; first | done | with_reducible rfl)); try simp only [Act.put, List.setIfInBounds_toArray, List.set_cons_zero, List.set_cons_succ]) | (refine takeW 0 rfl (by decide +kernel) (by decide +kernel) (by decide +kernel) (fun _ _ _ h => h) (Or.inr ⟨by rfl, rfl⟩) ?_; try simp only [Act.put, List.setIfInBounds_toArray, List.set_cons_zero, List.set_cons_succ]) | skip); (first | (refine takeT 1 (v := ?_) rfl (by decide +kernel) (by decide +kernel) (by decide +kernel) (fun _ _ _ h => h) (by decide +kernel) (Or.inl ⟨by rfl, ?_⟩) ?_; rotate_left 1; (focus (intro W hW; have hcW := hW.at; (try dsimp only at hcW); go_simp; first | done | with_reducible rfl)); try simp only [Act.put, List.setIfInBounds_toArray, List.set_cons_zero, List.set_cons_succ]) | (refine takeW 1 (v := ?_) rfl (by decide +kernel) (by decide +kernel) (by decide +kernel) (fun _ _ _ h => h) (Or.inl ⟨by rfl, ?_⟩) ?_; rotate_left 1; (focus (intro W hW; go_simp; first | done | with_reducible rfl)); try simp only [Act.put, List.setIfInBounds_toArray, List.set_cons_zero, List.set_cons_succ]) | (refine takeW 1 rfl (by decide +kernel) (by decide +kernel) (by decide +kernel) (fun _ _ _ h => h) (Or.inr ⟨by rfl, rfl⟩) ?_; try simp only [Act.put, List.setIfInBounds_toArray, List.set_cons_zero, List.set_cons_succ]) | skip))
    generalize W0.drew = v0 at hW ⊢
    clear e0 e1
    -- tree
    refine stepTA [2, 8, 9] (by decide +kernel) (by decide) ?_
    intro i hi
    rcases (by simpa using hi : i = 2 ∨ i = 8 ∨ i = 9) with rfl | rfl | rfl
    · clear hi
      refine ⟨_, rfl, by rfl, ?_⟩
      intro K hK
      go_simp
      have bb := (Below.refl v0.heap.size v0).alloc (Nat.le_refl _) (.cells #[.int .u8 0, .int .u8 2, .int .u8 1, .int .u8 0] 5)
      have h2 := Lib.hid (show Rd (v0.alloc (.cells #[.int .u8 0, .int .u8 2, .int .u8 1, .int .u8 0] 5)) (v0.alloc (.cells #[.int .u8 0, .int .u8 2, .int .u8 1, .int .u8 0] 5)).heap.size (some ⟨v0.heap.size, 0, none⟩) 4 [0, 2, 1, 0] from rd_top v0 5 [0, 2, 1, 0] (by simp))
      refine hK _ _ (.inr (smB hW.size bb)) ?_
      replace hW := hW.trans (bb.mono hW.size)
      clear hK K bb
      try simp only [List.setIfInBounds_toArray, List.set_cons_zero, List.set_cons_succ]
      generalize v0.alloc (.cells #[.int .u8 0, .int .u8 2, .int .u8 1, .int .u8 0] 5) = v1 at hW  h2 ⊢
      generalize v0.heap.size = q2 at h2 ⊢
      refine stepTA [3, 8, 9] (by decide +kernel) (by decide) ?_
      intro i hi
      rcases (by simpa using hi : i = 3 ∨ i = 8 ∨ i = 9) with rfl | rfl | rfl
      · clear hi
        refine ⟨_, rfl, by rfl, ?_⟩
        intro K hK
        go_simp
        refine (KX.out v1 _ 4 h2.out).mono ?_
        rintro e v2 ⟨A3, c3, rfl, h3, bb⟩
        replace h3 := Lib.hid h3
        refine hK _ _ (.inr (smB hW.size bb)) ?_
        replace h2 := Lib.hid (h2.out.belowTop bb)
        replace hW := hW.trans (bb.mono hW.size)
        clear hK K bb
        try simp only [List.setIfInBounds_toArray, List.set_cons_zero, List.set_cons_succ]
        refine stepTA [4, 8, 9] (by decide +kernel) (by decide) ?_
        intro i hi
        rcases (by simpa using hi : i = 4 ∨ i = 8 ∨ i = 9) with rfl | rfl | rfl
        · clear hi
          refine ⟨_, rfl, by rfl, ?_⟩
          intro K hK
          go_simp
          refine (KR.out v2 _ _ _ _ (R0.out.below hW |>.more hW.size) h3.out).mono ?_
          rintro e v3 ⟨ga, gb, rfl, na, nb, bb⟩
          replace na := Lib.hid (na.mono (base' := W0.heap.size) hW.size)
          replace nb := Lib.hid (nb.mono (base' := W0.heap.size) hW.size)
          refine hK _ _ (.inr (smB hW.size bb)) ?_
          replace h2 := Lib.hid (h2.out.belowTop bb)
          replace h3 := Lib.hid ((h3.out.below bb).more bb.size)
          replace hW := hW.trans (bb.mono hW.size)
          clear hK K bb
          try simp only [List.setIfInBounds_toArray, List.set_cons_zero, List.set_cons_succ]
          ((first | (refine takeT 5 (v := ?_) rfl (by decide +kernel) (by decide +kernel) (by decide +kernel) (fun _ _ _ h => h) (by decide +kernel) (Or.inl ⟨by rfl, ?_⟩) ?_; rotate_left 1; (focus (intro W hW; have hcW := hW.at; (try dsimp only at hcW); go_simp; first | done | with_reducible rfl)); try simp only [Act.put, List.setIfInBounds_toArray, List.set_cons_zero, List.set_cons_succ]) | (refine takeW 5 (v := ?_) rfl (by decide +kernel) (by decide +kernel) (by decide +kernel) (fun _ _ _ h => h) (Or.inl ⟨by rfl, ?_⟩) ?_; rotate_left 1; (focus (intro W hW; go_simp; first | done | with_reducible rfl)); try simp only [Act.put, List.setIfInBounds_toArray, List.set_cons_zero, List.set_cons_succ]) | (refine takeW 5 rfl (by decide +kernel) (by decide +kernel) (by decide +kernel) (fun _ _ _ h => h) (Or.inr ⟨by rfl, rfl⟩) ?_; try simp only [Act.put, List.setIfInBounds_toArray, List.set_cons_zero, List.set_cons_succ]) | skip); (first | (refine takeT 6 (v := ?_) rfl (by decide +kernel) (by decide +kernel) (by decide +kernel) (fun _ _ _ h => h) (by decide +kernel) (Or.inl ⟨by rfl, ?_⟩) ?_; rotate_left 1; (focus (intro W hW; have hcW := hW.at; (try dsimp only at hcW); go_simp; first | done | with_reducible rfl)); try simp only [Act.put, List.setIfInBounds_toArray, List.set_cons_zero, List.set_cons_succ]) | (refine takeW 6 (v := ?_) rfl (by decide +kernel) (by decide +kernel) (by decide +kernel) (fun _ _ _ h => h) (Or.inl ⟨by rfl, ?_⟩) ?_; rotate_left 1; (focus (intro W hW; go_simp; first | done | with_reducible rfl)); try simp only [Act.put, List.setIfInBounds_toArray, List.set_cons_zero, List.set_cons_succ]) | (refine takeW 6 rfl (by decide +kernel) (by decide +kernel) (by decide +kernel) (fun _ _ _ h => h) (Or.inr ⟨by rfl, rfl⟩) ?_; try simp only [Act.put, List.setIfInBounds_toArray, List.set_cons_zero, List.set_cons_succ]) | skip); (first | (refine takeT 7 (v := ?_) rfl (by decide +kernel) (by decide +kernel) (by decide +kernel) (fun _ _ _ h => h) (by decide +kernel) (Or.inl ⟨by rfl, ?_⟩) ?_; rotate_left 1; (focus (intro W hW; have hcW := hW.at; (try dsimp only at hcW); go_simp; first | done | with_reducible rfl)); try simp only [Act.put, List.setIfInBounds_toArray, List.set_cons_zero, List.set_cons_succ]) | (refine takeW 7 (v := ?_) rfl (by decide +kernel) (by decide +kernel) (by decide +kernel) (fun _ _ _ h => h) (Or.inl ⟨by rfl, ?_⟩) ?_; rotate_left 1; (focus (intro W hW; go_simp; first | done | with_reducible rfl)); try simp only [Act.put, List.setIfInBounds_toArray, List.set_cons_zero, List.set_cons_succ]) | (refine takeW 7 rfl (by decide +kernel) (by decide +kernel) (by decide +kernel) (fun _ _ _ h => h) (Or.inr ⟨by rfl, rfl⟩) ?_; try simp only [Act.put, List.setIfInBounds_toArray, List.set_cons_zero, List.set_cons_succ]) | skip))
          refine stepTA [8, 9] (by decide +kernel) (by decide) ?_
          intro i hi
          rcases (by simpa using hi : i = 8 ∨ i = 9) with rfl | rfl
          · clear hi
            refine ⟨_, rfl, by rfl, ?_⟩
            intro K hK
            go_simp
            have bb := (Below.refl v3.heap.size v3).alloc (Nat.le_refl _) (.cells #[.bool false, .slice none 0 0] 28)
            refine hK _ _ (.inr (smB hW.size bb)) ?_
            have h8 := Lib.hid (heap_alloc_new v3 (.cells #[.bool false, .slice none 0 0] 28))
            have lh8 := hW.size
            replace h2 := Lib.hid (h2.out.belowTop bb)
            replace h3 := Lib.hid ((h3.out.below bb).more bb.size)
            replace na := Lib.hid (na.out.below bb)
            replace nb := Lib.hid (nb.out.below bb)
            replace hW := hW.trans (bb.mono hW.size)
            clear hK K bb
            try simp only [List.setIfInBounds_toArray, List.set_cons_zero, List.set_cons_succ]
            generalize v3.alloc (.cells #[.bool false, .slice none 0 0] 28) = v4 at hW h2 h3 na nb h8 ⊢
            generalize v3.heap.size = g8 at h8 lh8 ⊢
            refine stepTA [9] (by decide +kernel) (by decide) ?_
            intro i hi
            obtain rfl : i = 9 := by simpa using hi
            clear hi
            refine ⟨_, rfl, by rfl, ?_⟩
            intro K hK
            go_simp
            have bb := (Below.refl v4.heap.size v4).alloc (Nat.le_refl _) (.cells #[.bool false, .slice none 0 0] 39)
            refine hK _ _ (.inr (smB hW.size bb)) ?_
            have h9 := Lib.hid (heap_alloc_new v4 (.cells #[.bool false, .slice none 0 0] 39))
            have lh9 := hW.size
            replace h2 := Lib.hid (h2.out.belowTop bb)
            replace h3 := Lib.hid ((h3.out.below bb).more bb.size)
            replace na := Lib.hid (na.out.below bb)
            replace nb := Lib.hid (nb.out.below bb)
            replace h8 := Lib.hid ((bb.block _ (block_lt h8.out)).trans h8.out)
            replace hW := hW.trans (bb.mono hW.size)
            clear hK K bb
            try simp only [List.setIfInBounds_toArray, List.set_cons_zero, List.set_cons_succ]
            generalize v4.alloc (.cells #[.bool false, .slice none 0 0] 39) = v5 at hW h2 h3 na nb h8 h9 ⊢
            generalize v4.heap.size = g9 at h9 lh9 ⊢
            have n89 := block_ne h8.out h9.out (by decide)
            have d0 := block_at h8.out (i := 0) (v := .bool false) rfl
            have d1 := block_at h8.out (i := 1) (v := .slice none 0 0) rfl
            have f0 := block_free h8.out 0
            have f1 := block_free h8.out 1
            refine stepT 10 rfl (by decide +kernel) (by rfl) ?_
            intro K hK
            go_simp
            have bb : Below W0.heap.size v5 ((v5.setCell ⟨g8, 0, none⟩ (.bool false)).setCell ⟨g8, 1, none⟩ (.slice (some ⟨ga, 0, none⟩) 1 1)) := below2 (Below.refl _ _) lh8 (.bool false) (.slice (some ⟨ga, 0, none⟩) 1 1)
            have hg8 := grown_trans (grown_setCell v5 ⟨g8, 0, none⟩ (.bool false)) (grown_setCell (v5.setCell ⟨g8, 0, none⟩ (.bool false)) ⟨g8, 1, none⟩ (.slice (some ⟨ga, 0, none⟩) 1 1))
            refine hK _ _ (.inr (smBelow bb)) ?_
            replace h9 := Lib.hid (block_grown h9.out hg8 (fun e => n89 (Option.some.inj e).symm))
            replace na := Lib.hid (na.out.stores2 h8.out (by decide) (by decide) (.bool false) (.slice (some ⟨ga, 0, none⟩) 1 1))
            replace nb := Lib.hid (nb.out.stores2 h8.out (by decide) (by decide) (.bool false) (.slice (some ⟨ga, 0, none⟩) 1 1))
            replace h8 : Hid (((v5.setCell ⟨g8, 0, none⟩ (.bool false)).setCell ⟨g8, 1, none⟩ (.slice (some ⟨ga, 0, none⟩) 1 1)).heap[g8]? = _) := set2 h8.out (.bool false) (.slice (some ⟨ga, 0, none⟩) 1 1)
            replace hW := hW.trans bb
            clear hK K bb hg8 d0 d1 f0 f1
            try simp only [List.setIfInBounds_toArray, List.set_cons_zero, List.set_cons_succ]
            generalize ((v5.setCell ⟨g8, 0, none⟩ (.bool false)).setCell ⟨g8, 1, none⟩ (.slice (some ⟨ga, 0, none⟩) 1 1)) = wx at h8 h9 na nb hW ⊢
            have d0 := block_at h9.out (i := 0) (v := .bool false) rfl
            have d1 := block_at h9.out (i := 1) (v := .slice none 0 0) rfl
            have f0 := block_free h9.out 0
            have f1 := block_free h9.out 1
            refine stepT 11 rfl (by decide +kernel) (by rfl) ?_
            intro K hK
            go_simp
            have bb : Below W0.heap.size wx ((wx.setCell ⟨g9, 0, none⟩ (.bool false)).setCell ⟨g9, 1, none⟩ (.slice (some ⟨gb, 0, none⟩) 2 2)) := below2 (Below.refl _ _) lh9 (.bool false) (.slice (some ⟨gb, 0, none⟩) 2 2)
            have hg9 := grown_trans (grown_setCell wx ⟨g9, 0, none⟩ (.bool false)) (grown_setCell (wx.setCell ⟨g9, 0, none⟩ (.bool false)) ⟨g9, 1, none⟩ (.slice (some ⟨gb, 0, none⟩) 2 2))
            refine hK _ _ (.inr (smBelow bb)) ?_
            replace h8 := Lib.hid (block_grown h8.out hg9 (fun e => n89 (Option.some.inj e)))
            replace na := Lib.hid (na.out.stores2 h9.out (by decide) (by decide) (.bool false) (.slice (some ⟨gb, 0, none⟩) 2 2))
            replace nb := Lib.hid (nb.out.stores2 h9.out (by decide) (by decide) (.bool false) (.slice (some ⟨gb, 0, none⟩) 2 2))
            replace h9 : Hid (((wx.setCell ⟨g9, 0, none⟩ (.bool false)).setCell ⟨g9, 1, none⟩ (.slice (some ⟨gb, 0, none⟩) 2 2)).heap[g9]? = _) := set2 h9.out (.bool false) (.slice (some ⟨gb, 0, none⟩) 2 2)
            replace hW := hW.trans bb
            clear hK K bb hg9 d0 d1 f0 f1
            refine doneT (by kernel_rfl) ?_
            exact ⟨g8, g9, ga, gb, _, _, _, _, _, _, _, _, rfl, hW, h8.out, h9.out, na.out, nb.out, lh8, lh9⟩
          · clear hi
            refine ⟨_, rfl, by rfl, ?_⟩
            intro K hK
            go_simp
            have bb := (Below.refl v3.heap.size v3).alloc (Nat.le_refl _) (.cells #[.bool false, .slice none 0 0] 39)
            refine hK _ _ (.inr (smB hW.size bb)) ?_
            have h9 := Lib.hid (heap_alloc_new v3 (.cells #[.bool false, .slice none 0 0] 39))
            have lh9 := hW.size
            replace h2 := Lib.hid (h2.out.belowTop bb)
            replace h3 := Lib.hid ((h3.out.below bb).more bb.size)
            replace na := Lib.hid (na.out.below bb)
            replace nb := Lib.hid (nb.out.below bb)
            replace hW := hW.trans (bb.mono hW.size)
            clear hK K bb
            try simp only [List.setIfInBounds_toArray, List.set_cons_zero, List.set_cons_succ]
            generalize v3.alloc (.cells #[.bool false, .slice none 0 0] 39) = v6 at hW h2 h3 na nb h9 ⊢
            generalize v3.heap.size = g9 at h9 lh9 ⊢
            refine stepTA [8] (by decide +kernel) (by decide) ?_
            intro i hi
            obtain rfl : i = 8 := by simpa using hi
            clear hi
            refine ⟨_, rfl, by rfl, ?_⟩
            intro K hK
            go_simp
            have bb := (Below.refl v6.heap.size v6).alloc (Nat.le_refl _) (.cells #[.bool false, .slice none 0 0] 28)
            refine hK _ _ (.inr (smB hW.size bb)) ?_
            have h8 := Lib.hid (heap_alloc_new v6 (.cells #[.bool false, .slice none 0 0] 28))
            have lh8 := hW.size
            replace h2 := Lib.hid (h2.out.belowTop bb)
            replace h3 := Lib.hid ((h3.out.below bb).more bb.size)
            replace na := Lib.hid (na.out.below bb)
            replace nb := Lib.hid (nb.out.below bb)
            replace h9 := Lib.hid ((bb.block _ (block_lt h9.out)).trans h9.out)
            replace hW := hW.trans (bb.mono hW.size)
            clear hK K bb
            try simp only [List.setIfInBounds_toArray, List.set_cons_zero, List.set_cons_succ]
            generalize v6.alloc (.cells #[.bool false, .slice none 0 0] 28) = v7 at hW h2 h3 na nb h9 h8 ⊢
            generalize v6.heap.size = g8 at h8 lh8 ⊢
            have n89 := block_ne h8.out h9.out (by decide)
            have d0 := block_at h8.out (i := 0) (v := .bool false) rfl
            have d1 := block_at h8.out (i := 1) (v := .slice none 0 0) rfl
            have f0 := block_free h8.out 0
            have f1 := block_free h8.out 1
            refine stepT 10 rfl (by decide +kernel) (by rfl) ?_
            intro K hK
            go_simp
            have bb : Below W0.heap.size v7 ((v7.setCell ⟨g8, 0, none⟩ (.bool false)).setCell ⟨g8, 1, none⟩ (.slice (some ⟨ga, 0, none⟩) 1 1)) := below2 (Below.refl _ _) lh8 (.bool false) (.slice (some ⟨ga, 0, none⟩) 1 1)
            have hg8 := grown_trans (grown_setCell v7 ⟨g8, 0, none⟩ (.bool false)) (grown_setCell (v7.setCell ⟨g8, 0, none⟩ (.bool false)) ⟨g8, 1, none⟩ (.slice (some ⟨ga, 0, none⟩) 1 1))
            refine hK _ _ (.inr (smBelow bb)) ?_
            replace h9 := Lib.hid (block_grown h9.out hg8 (fun e => n89 (Option.some.inj e).symm))
            replace na := Lib.hid (na.out.stores2 h8.out (by decide) (by decide) (.bool false) (.slice (some ⟨ga, 0, none⟩) 1 1))
            replace nb := Lib.hid (nb.out.stores2 h8.out (by decide) (by decide) (.bool false) (.slice (some ⟨ga, 0, none⟩) 1 1))
            replace h8 : Hid (((v7.setCell ⟨g8, 0, none⟩ (.bool false)).setCell ⟨g8, 1, none⟩ (.slice (some ⟨ga, 0, none⟩) 1 1)).heap[g8]? = _) := set2 h8.out (.bool false) (.slice (some ⟨ga, 0, none⟩) 1 1)
            replace hW := hW.trans bb
            clear hK K bb hg8 d0 d1 f0 f1
            try simp only [List.setIfInBounds_toArray, List.set_cons_zero, List.set_cons_succ]
            generalize ((v7.setCell ⟨g8, 0, none⟩ (.bool false)).setCell ⟨g8, 1, none⟩ (.slice (some ⟨ga, 0, none⟩) 1 1)) = wx at h8 h9 na nb hW ⊢
            have d0 := block_at h9.out (i := 0) (v := .bool false) rfl
            have d1 := block_at h9.out (i := 1) (v := .slice none 0 0) rfl
            have f0 := block_free h9.out 0
            have f1 := block_free h9.out 1
            refine stepT 11 rfl (by decide +kernel) (by rfl) ?_
            intro K hK
            go_simp
            have bb : Below W0.heap.size wx ((wx.setCell ⟨g9, 0, none⟩ (.bool false)).setCell ⟨g9, 1, none⟩ (.slice (some ⟨gb, 0, none⟩) 2 2)) := below2 (Below.refl _ _) lh9 (.bool false) (.slice (some ⟨gb, 0, none⟩) 2 2)
            have hg9 := grown_trans (grown_setCell wx ⟨g9, 0, none⟩ (.bool false)) (grown_setCell (wx.setCell ⟨g9, 0, none⟩ (.bool false)) ⟨g9, 1, none⟩ (.slice (some ⟨gb, 0, none⟩) 2 2))
            refine hK _ _ (.inr (smBelow bb)) ?_
            replace h8 := Lib.hid (block_grown h8.out hg9 (fun e => n89 (Option.some.inj e)))
            replace na := Lib.hid (na.out.stores2 h9.out (by decide) (by decide) (.bool false) (.slice (some ⟨gb, 0, none⟩) 2 2))
            replace nb := Lib.hid (nb.out.stores2 h9.out (by decide) (by decide) (.bool false) (.slice (some ⟨gb, 0, none⟩) 2 2))
            replace h9 : Hid (((wx.setCell ⟨g9, 0, none⟩ (.bool false)).setCell ⟨g9, 1, none⟩ (.slice (some ⟨gb, 0, none⟩) 2 2)).heap[g9]? = _) := set2 h9.out (.bool false) (.slice (some ⟨gb, 0, none⟩) 2 2)
            replace hW := hW.trans bb
            clear hK K bb hg9 d0 d1 f0 f1
            refine doneT (by kernel_rfl) ?_
            exact ⟨g8, g9, ga, gb, _, _, _, _, _, _, _, _, rfl, hW, h8.out, h9.out, na.out, nb.out, lh8, lh9⟩
        · clear hi
          refine ⟨_, rfl, by rfl, ?_⟩
          intro K hK
          go_simp
          have bb := (Below.refl v2.heap.size v2).alloc (Nat.le_refl _) (.cells #[.bool false, .slice none 0 0] 28)
          refine hK _ _ (.inr (smB hW.size bb)) ?_
          have h8 := Lib.hid (heap_alloc_new v2 (.cells #[.bool false, .slice none 0 0] 28))
          have lh8 := hW.size
          replace h2 := Lib.hid (h2.out.belowTop bb)
          replace h3 := Lib.hid ((h3.out.below bb).more bb.size)
          replace hW := hW.trans (bb.mono hW.size)
          clear hK K bb
          try simp only [List.setIfInBounds_toArray, List.set_cons_zero, List.set_cons_succ]
          generalize v2.alloc (.cells #[.bool false, .slice none 0 0] 28) = v8 at hW h2 h3 h8 ⊢
          generalize v2.heap.size = g8 at h8 lh8 ⊢
          refine stepTA [4, 9] (by decide +kernel) (by decide) ?_
          intro i hi
          rcases (by simpa using hi : i = 4 ∨ i = 9) with rfl | rfl
          · clear hi
            refine ⟨_, rfl, by rfl, ?_⟩
            intro K hK
            go_simp
            refine (KR.out v8 _ _ _ _ (R0.out.below hW |>.more hW.size) h3.out).mono ?_
            rintro e v9 ⟨ga, gb, rfl, na, nb, bb⟩
            replace na := Lib.hid (na.mono (base' := W0.heap.size) hW.size)
            replace nb := Lib.hid (nb.mono (base' := W0.heap.size) hW.size)
            refine hK _ _ (.inr (smB hW.size bb)) ?_
            replace h2 := Lib.hid (h2.out.belowTop bb)
            replace h3 := Lib.hid ((h3.out.below bb).more bb.size)
            replace h8 := Lib.hid ((bb.block _ (block_lt h8.out)).trans h8.out)
            replace hW := hW.trans (bb.mono hW.size)
            clear hK K bb
            try simp only [List.setIfInBounds_toArray, List.set_cons_zero, List.set_cons_succ]
            ((first | (refine takeT 5 (v := ?_) rfl (by decide +kernel) (by decide +kernel) (by decide +kernel) (fun _ _ _ h => h) (by decide +kernel) (Or.inl ⟨by rfl, ?_⟩) ?_; rotate_left 1; (focus (intro W hW; have hcW := hW.at; (try dsimp only at hcW); go_simp; first | done | with_reducible rfl)); try simp only [Act.put, List.setIfInBounds_toArray, List.set_cons_zero, List.set_cons_succ]) | (refine takeW 5 (v := ?_) rfl (by decide +kernel) (by decide +kernel) (by decide +kernel) (fun _ _ _ h => h) (Or.inl ⟨by rfl, ?_⟩) ?_; rotate_left 1; (focus (intro W hW; go_simp; first | done | with_reducible rfl)); try simp only [Act.put, List.setIfInBounds_toArray, List.set_cons_zero, List.set_cons_succ]) | (refine takeW 5 rfl (by decide +kernel) (by decide +kernel) (by decide +kernel) (fun _ _ _ h => h) (Or.inr ⟨by rfl, rfl⟩) ?_; try simp only [Act.put, List.setIfInBounds_toArray, List.set_cons_zero, List.set_cons_succ]) | skip); (first | (refine takeT 6 (v := ?_) rfl (by decide +kernel) (by decide +kernel) (by decide +kernel) (fun _ _ _ h => h) (by decide +kernel) (Or.inl ⟨by rfl, ?_⟩) ?_; rotate_left 1; (focus (intro W hW; have hcW := hW.at; (try dsimp only at hcW); go_simp; first | done | with_reducible rfl)); try simp only [Act.put, List.setIfInBounds_toArray, List.set_cons_zero, List.set_cons_succ]) | (refine takeW 6 (v := ?_) rfl (by decide +kernel) (by decide +kernel) (by decide +kernel) (fun _ _ _ h => h) (Or.inl ⟨by rfl, ?_⟩) ?_; rotate_left 1; (focus (intro W hW; go_simp; first | done | with_reducible rfl)); try simp only [Act.put, List.setIfInBounds_toArray, List.set_cons_zero, List.set_cons_succ]) | (refine takeW 6 rfl (by decide +kernel) (by decide +kernel) (by decide +kernel) (fun _ _ _ h => h) (Or.inr ⟨by rfl, rfl⟩) ?_; try simp only [Act.put, List.setIfInBounds_toArray, List.set_cons_zero, List.set_cons_succ]) | skip); (first | (refine takeT 7 (v := ?_) rfl (by decide +kernel) (by decide +kernel) (by decide +kernel) (fun _ _ _ h => h) (by decide +kernel) (Or.inl ⟨by rfl, ?_⟩) ?_; rotate_left 1; (focus (intro W hW; have hcW := hW.at; (try dsimp only at hcW); go_simp; first | done | with_reducible rfl)); try simp only [Act.put, List.setIfInBounds_toArray, List.set_cons_zero, List.set_cons_succ]) | (refine takeW 7 (v := ?_) rfl (by decide +kernel) (by decide +kernel) (by decide +kernel) (fun _ _ _ h => h) (Or.inl ⟨by rfl, ?_⟩) ?_; rotate_left 1; (focus (intro W hW; go_simp; first | done | with_reducible rfl)); try simp only [Act.put, List.setIfInBounds_toArray, List.set_cons_zero, List.set_cons_succ]) | (refine takeW 7 rfl (by decide +kernel) (by decide +kernel) (by decide +kernel) (fun _ _ _ h => h) (Or.inr ⟨by rfl, rfl⟩) ?_; try simp only [Act.put, List.setIfInBounds_toArray, List.set_cons_zero, List.set_cons_succ]) | skip))
            refine stepTA [9] (by decide +kernel) (by decide) ?_
            intro i hi
            obtain rfl : i = 9 := by simpa using hi
            clear hi
            refine ⟨_, rfl, by rfl, ?_⟩
            intro K hK
            go_simp
            have bb := (Below.refl v9.heap.size v9).alloc (Nat.le_refl _) (.cells #[.bool false, .slice none 0 0] 39)
            refine hK _ _ (.inr (smB hW.size bb)) ?_
            have h9 := Lib.hid (heap_alloc_new v9 (.cells #[.bool false, .slice none 0 0] 39))
            have lh9 := hW.size
            replace h2 := Lib.hid (h2.out.belowTop bb)
            replace h3 := Lib.hid ((h3.out.below bb).more bb.size)
            replace h8 := Lib.hid ((bb.block _ (block_lt h8.out)).trans h8.out)
            replace na := Lib.hid (na.out.below bb)
            replace nb := Lib.hid (nb.out.below bb)
            replace hW := hW.trans (bb.mono hW.size)
            clear hK K bb
            try simp only [List.setIfInBounds_toArray, List.set_cons_zero, List.set_cons_succ]
            generalize v9.alloc (.cells #[.bool false, .slice none 0 0] 39) = v10 at hW h2 h3 h8 na nb h9 ⊢
            generalize v9.heap.size = g9 at h9 lh9 ⊢
            have n89 := block_ne h8.out h9.out (by decide)
            have d0 := block_at h8.out (i := 0) (v := .bool false) rfl
            have d1 := block_at h8.out (i := 1) (v := .slice none 0 0) rfl
            have f0 := block_free h8.out 0
            have f1 := block_free h8.out 1
            refine stepT 10 rfl (by decide +kernel) (by rfl) ?_
            intro K hK
            go_simp
            have bb : Below W0.heap.size v10 ((v10.setCell ⟨g8, 0, none⟩ (.bool false)).setCell ⟨g8, 1, none⟩ (.slice (some ⟨ga, 0, none⟩) 1 1)) := below2 (Below.refl _ _) lh8 (.bool false) (.slice (some ⟨ga, 0, none⟩) 1 1)
            have hg8 := grown_trans (grown_setCell v10 ⟨g8, 0, none⟩ (.bool false)) (grown_setCell (v10.setCell ⟨g8, 0, none⟩ (.bool false)) ⟨g8, 1, none⟩ (.slice (some ⟨ga, 0, none⟩) 1 1))
            refine hK _ _ (.inr (smBelow bb)) ?_
            replace h9 := Lib.hid (block_grown h9.out hg8 (fun e => n89 (Option.some.inj e).symm))
            replace na := Lib.hid (na.out.stores2 h8.out (by decide) (by decide) (.bool false) (.slice (some ⟨ga, 0, none⟩) 1 1))
            replace nb := Lib.hid (nb.out.stores2 h8.out (by decide) (by decide) (.bool false) (.slice (some ⟨ga, 0, none⟩) 1 1))
            replace h8 : Hid (((v10.setCell ⟨g8, 0, none⟩ (.bool false)).setCell ⟨g8, 1, none⟩ (.slice (some ⟨ga, 0, none⟩) 1 1)).heap[g8]? = _) := set2 h8.out (.bool false) (.slice (some ⟨ga, 0, none⟩) 1 1)
            replace hW := hW.trans bb
            clear hK K bb hg8 d0 d1 f0 f1
            try simp only [List.setIfInBounds_toArray, List.set_cons_zero, List.set_cons_succ]
            generalize ((v10.setCell ⟨g8, 0, none⟩ (.bool false)).setCell ⟨g8, 1, none⟩ (.slice (some ⟨ga, 0, none⟩) 1 1)) = wx at h8 h9 na nb hW ⊢
            have d0 := block_at h9.out (i := 0) (v := .bool false) rfl
            have d1 := block_at h9.out (i := 1) (v := .slice none 0 0) rfl
            have f0 := block_free h9.out 0
            have f1 := block_free h9.out 1
            refine stepT 11 rfl (by decide +kernel) (by rfl) ?_
            intro K hK
            go_simp
            have bb : Below W0.heap.size wx ((wx.setCell ⟨g9, 0, none⟩ (.bool false)).setCell ⟨g9, 1, none⟩ (.slice (some ⟨gb, 0, none⟩) 2 2)) := below2 (Below.refl _ _) lh9 (.bool false) (.slice (some ⟨gb, 0, none⟩) 2 2)
            have hg9 := grown_trans (grown_setCell wx ⟨g9, 0, none⟩ (.bool false)) (grown_setCell (wx.setCell ⟨g9, 0, none⟩ (.bool false)) ⟨g9, 1, none⟩ (.slice (some ⟨gb, 0, none⟩) 2 2))
            refine hK _ _ (.inr (smBelow bb)) ?_
            replace h8 := Lib.hid (block_grown h8.out hg9 (fun e => n89 (Option.some.inj e)))
            replace na := Lib.hid (na.out.stores2 h9.out (by decide) (by decide) (.bool false) (.slice (some ⟨gb, 0, none⟩) 2 2))
            replace nb := Lib.hid (nb.out.stores2 h9.out (by decide) (by decide) (.bool false) (.slice (some ⟨gb, 0, none⟩) 2 2))
            replace h9 : Hid (((wx.setCell ⟨g9, 0, none⟩ (.bool false)).setCell ⟨g9, 1, none⟩ (.slice (some ⟨gb, 0, none⟩) 2 2)).heap[g9]? = _) := set2 h9.out (.bool false) (.slice (some ⟨gb, 0, none⟩) 2 2)
            replace hW := hW.trans bb
            clear hK K bb hg9 d0 d1 f0 f1
            refine doneT (by kernel_rfl) ?_
            exact ⟨g8, g9, ga, gb, _, _, _, _, _, _, _, _, rfl, hW, h8.out, h9.out, na.out, nb.out, lh8, lh9⟩
          · clear hi
            refine ⟨_, rfl, by rfl, ?_⟩
            intro K hK
            go_simp
            have bb := (Below.refl v8.heap.size v8).alloc (Nat.le_refl _) (.cells #[.bool false, .slice none 0 0] 39)
            refine hK _ _ (.inr (smB hW.size bb)) ?_
            have h9 := Lib.hid (heap_alloc_new v8 (.cells #[.bool false, .slice none 0 0] 39))
            have lh9 := hW.size
            replace h2 := Lib.hid (h2.out.belowTop bb)
            replace h3 := Lib.hid ((h3.out.below bb).more bb.size)
            replace h8 := Lib.hid ((bb.block _ (block_lt h8.out)).trans h8.out)
            replace hW := hW.trans (bb.mono hW.size)
            clear hK K bb
            try simp only [List.setIfInBounds_toArray, List.set_cons_zero, List.set_cons_succ]
            generalize v8.alloc (.cells #[.bool false, .slice none 0 0] 39) = v11 at hW h2 h3 h8 h9 ⊢
            generalize v8.heap.size = g9 at h9 lh9 ⊢
            refine stepTA [4] (by decide +kernel) (by decide) ?_
            intro i hi
            obtain rfl : i = 4 := by simpa using hi
            clear hi
            refine ⟨_, rfl, by rfl, ?_⟩
            intro K hK
            go_simp
            refine (KR.out v11 _ _ _ _ (R0.out.below hW |>.more hW.size) h3.out).mono ?_
            rintro e v12 ⟨ga, gb, rfl, na, nb, bb⟩
            replace na := Lib.hid (na.mono (base' := W0.heap.size) hW.size)
            replace nb := Lib.hid (nb.mono (base' := W0.heap.size) hW.size)
            refine hK _ _ (.inr (smB hW.size bb)) ?_
            replace h2 := Lib.hid (h2.out.belowTop bb)
            replace h3 := Lib.hid ((h3.out.below bb).more bb.size)
            replace h8 := Lib.hid ((bb.block _ (block_lt h8.out)).trans h8.out)
            replace h9 := Lib.hid ((bb.block _ (block_lt h9.out)).trans h9.out)
            replace hW := hW.trans (bb.mono hW.size)
            clear hK K bb
            try simp only [List.setIfInBounds_toArray, List.set_cons_zero, List.set_cons_succ]
            ((first | (refine takeT 5 (v := ?_) rfl (by decide +kernel) (by decide +kernel) (by decide +kernel) (fun _ _ _ h => h) (by decide +kernel) (Or.inl ⟨by rfl, ?_⟩) ?_; rotate_left 1; (focus (intro W hW; have hcW := hW.at; (try dsimp only at hcW); go_simp; first | done | with_reducible rfl)); try simp only [Act.put, List.setIfInBounds_toArray, List.set_cons_zero, List.set_cons_succ]) | (refine takeW 5 (v := ?_) rfl (by decide +kernel) (by decide +kernel) (by decide +kernel) (fun _ _ _ h => h) (Or.inl ⟨by rfl, ?_⟩) ?_; rotate_left 1; (focus (intro W hW; go_simp; first | done | with_reducible rfl)); try simp only [Act.put, List.setIfInBounds_toArray, List.set_cons_zero, List.set_cons_succ]) | (refine takeW 5 rfl (by decide +kernel) (by decide +kernel) (by decide +kernel) (fun _ _ _ h => h) (Or.inr ⟨by rfl, rfl⟩) ?_; try simp only [Act.put, List.setIfInBounds_toArray, List.set_cons_zero, List.set_cons_succ]) | skip); (first | (refine takeT 6 (v := ?_) rfl (by decide +kernel) (by decide +kernel) (by decide +kernel) (fun _ _ _ h => h) (by decide +kernel) (Or.inl ⟨by rfl, ?_⟩) ?_; rotate_left 1; (focus (intro W hW; have hcW := hW.at; (try dsimp only at hcW); go_simp; first | done | with_reducible rfl)); try simp only [Act.put, List.setIfInBounds_toArray, List.set_cons_zero, List.set_cons_succ]) | (refine takeW 6 (v := ?_) rfl (by decide +kernel) (by decide +kernel) (by decide +kernel) (fun _ _ _ h => h) (Or.inl ⟨by rfl, ?_⟩) ?_; rotate_left 1; (focus (intro W hW; go_simp; first | done | with_reducible rfl)); try simp only [Act.put, List.setIfInBounds_toArray, List.set_cons_zero, List.set_cons_succ]) | (refine takeW 6 rfl (by decide +kernel) (by decide +kernel) (by decide +kernel) (fun _ _ _ h => h) (Or.inr ⟨by rfl, rfl⟩) ?_; try simp only [Act.put, List.setIfInBounds_toArray, List.set_cons_zero, List.set_cons_succ]) | skip); (first | (refine takeT 7 (v := ?_) rfl (by decide +kernel) (by decide +kernel) (by decide +kernel) (fun _ _ _ h => h) (by decide +kernel) (Or.inl ⟨by rfl, ?_⟩) ?_; rotate_left 1; (focus (intro W hW; have hcW := hW.at; (try dsimp only at hcW); go_simp; first | done | with_reducible rfl)); try simp only [Act.put, List.setIfInBounds_toArray, List.set_cons_zero, List.set_cons_succ]) | (refine takeW 7 (v := ?_) rfl (by decide +kernel) (by decide +kernel) (by decide +kernel) (fun _ _ _ h => h) (Or.inl ⟨by rfl, ?_⟩) ?_; rotate_left 1; (focus (intro W hW; go_simp; first | done | with_reducible rfl)); try simp only [Act.put, List.setIfInBounds_toArray, List.set_cons_zero, List.set_cons_succ]) | (refine takeW 7 rfl (by decide +kernel) (by decide +kernel) (by decide +kernel) (fun _ _ _ h => h) (Or.inr ⟨by rfl, rfl⟩) ?_; try simp only [Act.put, List.setIfInBounds_toArray, List.set_cons_zero, List.set_cons_succ]) | skip))
            have n89 := block_ne h8.out h9.out (by decide)
            have d0 := block_at h8.out (i := 0) (v := .bool false) rfl
            have d1 := block_at h8.out (i := 1) (v := .slice none 0 0) rfl
            have f0 := block_free h8.out 0
            have f1 := block_free h8.out 1
            refine stepT 10 rfl (by decide +kernel) (by rfl) ?_
            intro K hK
            go_simp
            have bb : Below W0.heap.size v12 ((v12.setCell ⟨g8, 0, none⟩ (.bool false)).setCell ⟨g8, 1, none⟩ (.slice (some ⟨ga, 0, none⟩) 1 1)) := below2 (Below.refl _ _) lh8 (.bool false) (.slice (some ⟨ga, 0, none⟩) 1 1)
            have hg8 := grown_trans (grown_setCell v12 ⟨g8, 0, none⟩ (.bool false)) (grown_setCell (v12.setCell ⟨g8, 0, none⟩ (.bool false)) ⟨g8, 1, none⟩ (.slice (some ⟨ga, 0, none⟩) 1 1))
            refine hK _ _ (.inr (smBelow bb)) ?_
            replace h9 := Lib.hid (block_grown h9.out hg8 (fun e => n89 (Option.some.inj e).symm))
            replace na := Lib.hid (na.out.stores2 h8.out (by decide) (by decide) (.bool false) (.slice (some ⟨ga, 0, none⟩) 1 1))
            replace nb := Lib.hid (nb.out.stores2 h8.out (by decide) (by decide) (.bool false) (.slice (some ⟨ga, 0, none⟩) 1 1))
            replace h8 : Hid (((v12.setCell ⟨g8, 0, none⟩ (.bool false)).setCell ⟨g8, 1, none⟩ (.slice (some ⟨ga, 0, none⟩) 1 1)).heap[g8]? = _) := set2 h8.out (.bool false) (.slice (some ⟨ga, 0, none⟩) 1 1)
            replace hW := hW.trans bb
            clear hK K bb hg8 d0 d1 f0 f1
            try simp only [List.setIfInBounds_toArray, List.set_cons_zero, List.set_cons_succ]
            generalize ((v12.setCell ⟨g8, 0, none⟩ (.bool false)).setCell ⟨g8, 1, none⟩ (.slice (some ⟨ga, 0, none⟩) 1 1)) = wx at h8 h9 na nb hW ⊢
            have d0 := block_at h9.out (i := 0) (v := .bool false) rfl
            have d1 := block_at h9.out (i := 1) (v := .slice none 0 0) rfl
            have f0 := block_free h9.out 0
            have f1 := block_free h9.out 1
            refine stepT 11 rfl (by decide +kernel) (by rfl) ?_
            intro K hK
            go_simp
            have bb : Below W0.heap.size wx ((wx.setCell ⟨g9, 0, none⟩ (.bool false)).setCell ⟨g9, 1, none⟩ (.slice (some ⟨gb, 0, none⟩) 2 2)) := below2 (Below.refl _ _) lh9 (.bool false) (.slice (some ⟨gb, 0, none⟩) 2 2)
            have hg9 := grown_trans (grown_setCell wx ⟨g9, 0, none⟩ (.bool false)) (grown_setCell (wx.setCell ⟨g9, 0, none⟩ (.bool false)) ⟨g9, 1, none⟩ (.slice (some ⟨gb, 0, none⟩) 2 2))
            refine hK _ _ (.inr (smBelow bb)) ?_
            replace h8 := Lib.hid (block_grown h8.out hg9 (fun e => n89 (Option.some.inj e)))
            replace na := Lib.hid (na.out.stores2 h9.out (by decide) (by decide) (.bool false) (.slice (some ⟨gb, 0, none⟩) 2 2))
            replace nb := Lib.hid (nb.out.stores2 h9.out (by decide) (by decide) (.bool false) (.slice (some ⟨gb, 0, none⟩) 2 2))
            replace h9 : Hid (((wx.setCell ⟨g9, 0, none⟩ (.bool false)).setCell ⟨g9, 1, none⟩ (.slice (some ⟨gb, 0, none⟩) 2 2)).heap[g9]? = _) := set2 h9.out (.bool false) (.slice (some ⟨gb, 0, none⟩) 2 2)
            replace hW := hW.trans bb
            clear hK K bb hg9 d0 d1 f0 f1
            refine doneT (by kernel_rfl) ?_
            exact ⟨g8, g9, ga, gb, _, _, _, _, _, _, _, _, rfl, hW, h8.out, h9.out, na.out, nb.out, lh8, lh9⟩
        · clear hi
          refine ⟨_, rfl, by rfl, ?_⟩
          intro K hK
          go_simp
          have bb := (Below.refl v2.heap.size v2).alloc (Nat.le_refl _) (.cells #[.bool false, .slice none 0 0] 39)
          refine hK _ _ (.inr (smB hW.size bb)) ?_
          have h9 := Lib.hid (heap_alloc_new v2 (.cells #[.bool false, .slice none 0 0] 39))
          have lh9 := hW.size
          replace h2 := Lib.hid (h2.out.belowTop bb)
          replace h3 := Lib.hid ((h3.out.below bb).more bb.size)
          replace hW := hW.trans (bb.mono hW.size)
          clear hK K bb
          try simp only [List.setIfInBounds_toArray, List.set_cons_zero, List.set_cons_succ]
          generalize v2.alloc (.cells #[.bool false, .slice none 0 0] 39) = v13 at hW h2 h3 h9 ⊢
          generalize v2.heap.size = g9 at h9 lh9 ⊢
          refine stepTA [4, 8] (by decide +kernel) (by decide) ?_
          intro i hi
          rcases (by simpa using hi : i = 4 ∨ i = 8) with rfl | rfl
          · clear hi
            refine ⟨_, rfl, by rfl, ?_⟩
            intro K hK
            go_simp
            refine (KR.out v13 _ _ _ _ (R0.out.below hW |>.more hW.size) h3.out).mono ?_
            rintro e v14 ⟨ga, gb, rfl, na, nb, bb⟩
            replace na := Lib.hid (na.mono (base' := W0.heap.size) hW.size)
            replace nb := Lib.hid (nb.mono (base' := W0.heap.size) hW.size)
            refine hK _ _ (.inr (smB hW.size bb)) ?_
            replace h2 := Lib.hid (h2.out.belowTop bb)
            replace h3 := Lib.hid ((h3.out.below bb).more bb.size)
            replace h9 := Lib.hid ((bb.block _ (block_lt h9.out)).trans h9.out)
            replace hW := hW.trans (bb.mono hW.size)
            clear hK K bb
            try simp only [List.setIfInBounds_toArray, List.set_cons_zero, List.set_cons_succ]
            ((first | (refine takeT 5 (v := ?_) rfl (by decide +kernel) (by decide +kernel) (by decide +kernel) (fun _ _ _ h => h) (by decide +kernel) (Or.inl ⟨by rfl, ?_⟩) ?_; rotate_left 1; (focus (intro W hW; have hcW := hW.at; (try dsimp only at hcW); go_simp; first | done | with_reducible rfl)); try simp only [Act.put, List.setIfInBounds_toArray, List.set_cons_zero, List.set_cons_succ]) | (refine takeW 5 (v := ?_) rfl (by decide +kernel) (by decide +kernel) (by decide +kernel) (fun _ _ _ h => h) (Or.inl ⟨by rfl, ?_⟩) ?_; rotate_left 1; (focus (intro W hW; go_simp; first | done | with_reducible rfl)); try simp only [Act.put, List.setIfInBounds_toArray, List.set_cons_zero, List.set_cons_succ]) | (refine takeW 5 rfl (by decide +kernel) (by decide +kernel) (by decide +kernel) (fun _ _ _ h => h) (Or.inr ⟨by rfl, rfl⟩) ?_; try simp only [Act.put, List.setIfInBounds_toArray, List.set_cons_zero, List.set_cons_succ]) | skip); (first | (refine takeT 6 (v := ?_) rfl (by decide +kernel) (by decide +kernel) (by decide +kernel) (fun _ _ _ h => h) (by decide +kernel) (Or.inl ⟨by rfl, ?_⟩) ?_; rotate_left 1; (focus (intro W hW; have hcW := hW.at; (try dsimp only at hcW); go_simp; first | done | with_reducible rfl)); try simp only [Act.put, List.setIfInBounds_toArray, List.set_cons_zero, List.set_cons_succ]) | (refine takeW 6 (v := ?_) rfl (by decide +kernel) (by decide +kernel) (by decide +kernel) (fun _ _ _ h => h) (Or.inl ⟨by rfl, ?_⟩) ?_; rotate_left 1; (focus (intro W hW; go_simp; first | done | with_reducible rfl)); try simp only [Act.put, List.setIfInBounds_toArray, List.set_cons_zero, List.set_cons_succ]) | (refine takeW 6 rfl (by decide +kernel) (by decide +kernel) (by decide +kernel) (fun _ _ _ h => h) (Or.inr ⟨by rfl, rfl⟩) ?_; try simp only [Act.put, List.setIfInBounds_toArray, List.set_cons_zero, List.set_cons_succ]) | skip); (first | (refine takeT 7 (v := ?_) rfl (by decide +kernel) (by decide +kernel) (by decide +kernel) (fun _ _ _ h => h) (by decide +kernel) (Or.inl ⟨by rfl, ?_⟩) ?_; rotate_left 1; (focus (intro W hW; have hcW := hW.at; (try dsimp only at hcW); go_simp; first | done | with_reducible rfl)); try simp only [Act.put, List.setIfInBounds_toArray, List.set_cons_zero, List.set_cons_succ]) | (refine takeW 7 (v := ?_) rfl (by decide +kernel) (by decide +kernel) (by decide +kernel) (fun _ _ _ h => h) (Or.inl ⟨by rfl, ?_⟩) ?_; rotate_left 1; (focus (intro W hW; go_simp; first | done | with_reducible rfl)); try simp only [Act.put, List.setIfInBounds_toArray, List.set_cons_zero, List.set_cons_succ]) | (refine takeW 7 rfl (by decide +kernel) (by decide +kernel) (by decide +kernel) (fun _ _ _ h => h) (Or.inr ⟨by rfl, rfl⟩) ?_; try simp only [Act.put, List.setIfInBounds_toArray, List.set_cons_zero, List.set_cons_succ]) | skip))
            refine stepTA [8] (by decide +kernel) (by decide) ?_
            intro i hi
            obtain rfl : i = 8 := by simpa using hi
            clear hi
            refine ⟨_, rfl, by rfl, ?_⟩
            intro K hK
            go_simp
            have bb := (Below.refl v14.heap.size v14).alloc (Nat.le_refl _) (.cells #[.bool false, .slice none 0 0] 28)
            refine hK _ _ (.inr (smB hW.size bb)) ?_
            have h8 := Lib.hid (heap_alloc_new v14 (.cells #[.bool false, .slice none 0 0] 28))
            have lh8 := hW.size
            replace h2 := Lib.hid (h2.out.belowTop bb)
            replace h3 := Lib.hid ((h3.out.below bb).more bb.size)
            replace h9 := Lib.hid ((bb.block _ (block_lt h9.out)).trans h9.out)
            replace na := Lib.hid (na.out.below bb)
            replace nb := Lib.hid (nb.out.below bb)
            replace hW := hW.trans (bb.mono hW.size)
            clear hK K bb
            try simp only [List.setIfInBounds_toArray, List.set_cons_zero, List.set_cons_succ]
            generalize v14.alloc (.cells #[.bool false, .slice none 0 0] 28) = v15 at hW h2 h3 h9 na nb h8 ⊢
            generalize v14.heap.size = g8 at h8 lh8 ⊢
            have n89 := block_ne h8.out h9.out (by decide)
            have d0 := block_at h8.out (i := 0) (v := .bool false) rfl
            have d1 := block_at h8.out (i := 1) (v := .slice none 0 0) rfl
            have f0 := block_free h8.out 0
            have f1 := block_free h8.out 1
            refine stepT 10 rfl (by decide +kernel) (by rfl) ?_
            intro K hK
            go_simp
            have bb : Below W0.heap.size v15 ((v15.setCell ⟨g8, 0, none⟩ (.bool false)).setCell ⟨g8, 1, none⟩ (.slice (some ⟨ga, 0, none⟩) 1 1)) := below2 (Below.refl _ _) lh8 (.bool false) (.slice (some ⟨ga, 0, none⟩) 1 1)
            have hg8 := grown_trans (grown_setCell v15 ⟨g8, 0, none⟩ (.bool false)) (grown_setCell (v15.setCell ⟨g8, 0, none⟩ (.bool false)) ⟨g8, 1, none⟩ (.slice (some ⟨ga, 0, none⟩) 1 1))
            refine hK _ _ (.inr (smBelow bb)) ?_
            replace h9 := Lib.hid (block_grown h9.out hg8 (fun e => n89 (Option.some.inj e).symm))
            replace na := Lib.hid (na.out.stores2 h8.out (by decide) (by decide) (.bool false) (.slice (some ⟨ga, 0, none⟩) 1 1))
            replace nb := Lib.hid (nb.out.stores2 h8.out (by decide) (by decide) (.bool false) (.slice (some ⟨ga, 0, none⟩) 1 1))
            replace h8 : Hid (((v15.setCell ⟨g8, 0, none⟩ (.bool false)).setCell ⟨g8, 1, none⟩ (.slice (some ⟨ga, 0, none⟩) 1 1)).heap[g8]? = _) := set2 h8.out (.bool false) (.slice (some ⟨ga, 0, none⟩) 1 1)
            replace hW := hW.trans bb
            clear hK K bb hg8 d0 d1 f0 f1
            try simp only [List.setIfInBounds_toArray, List.set_cons_zero, List.set_cons_succ]
            generalize ((v15.setCell ⟨g8, 0, none⟩ (.bool false)).setCell ⟨g8, 1, none⟩ (.slice (some ⟨ga, 0, none⟩) 1 1)) = wx at h8 h9 na nb hW ⊢
            have d0 := block_at h9.out (i := 0) (v := .bool false) rfl
            have d1 := block_at h9.out (i := 1) (v := .slice none 0 0) rfl
            have f0 := block_free h9.out 0
            have f1 := block_free h9.out 1
            refine stepT 11 rfl (by decide +kernel) (by rfl) ?_
            intro K hK
            go_simp
            have bb : Below W0.heap.size wx ((wx.setCell ⟨g9, 0, none⟩ (.bool false)).setCell ⟨g9, 1, none⟩ (.slice (some ⟨gb, 0, none⟩) 2 2)) := below2 (Below.refl _ _) lh9 (.bool false) (.slice (some ⟨gb, 0, none⟩) 2 2)
            have hg9 := grown_trans (grown_setCell wx ⟨g9, 0, none⟩ (.bool false)) (grown_setCell (wx.setCell ⟨g9, 0, none⟩ (.bool false)) ⟨g9, 1, none⟩ (.slice (some ⟨gb, 0, none⟩) 2 2))
            refine hK _ _ (.inr (smBelow bb)) ?_
            replace h8 := Lib.hid (block_grown h8.out hg9 (fun e => n89 (Option.some.inj e)))
            replace na := Lib.hid (na.out.stores2 h9.out (by decide) (by decide) (.bool false) (.slice (some ⟨gb, 0, none⟩) 2 2))
            replace nb := Lib.hid (nb.out.stores2 h9.out (by decide) (by decide) (.bool false) (.slice (some ⟨gb, 0, none⟩) 2 2))
            replace h9 : Hid (((wx.setCell ⟨g9, 0, none⟩ (.bool false)).setCell ⟨g9, 1, none⟩ (.slice (some ⟨gb, 0, none⟩) 2 2)).heap[g9]? = _) := set2 h9.out (.bool false) (.slice (some ⟨gb, 0, none⟩) 2 2)
            replace hW := hW.trans bb
            clear hK K bb hg9 d0 d1 f0 f1
            refine doneT (by kernel_rfl) ?_
            exact ⟨g8, g9, ga, gb, _, _, _, _, _, _, _, _, rfl, hW, h8.out, h9.out, na.out, nb.out, lh8, lh9⟩
          · clear hi
            refine ⟨_, rfl, by rfl, ?_⟩
            intro K hK
            go_simp
            have bb := (Below.refl v13.heap.size v13).alloc (Nat.le_refl _) (.cells #[.bool false, .slice none 0 0] 28)
            refine hK _ _ (.inr (smB hW.size bb)) ?_
            have h8 := Lib.hid (heap_alloc_new v13 (.cells #[.bool false, .slice none 0 0] 28))
            have lh8 := hW.size
            replace h2 := Lib.hid (h2.out.belowTop bb)
            replace h3 := Lib.hid ((h3.out.below bb).more bb.size)
            replace h9 := Lib.hid ((bb.block _ (block_lt h9.out)).trans h9.out)
            replace hW := hW.trans (bb.mono hW.size)
            clear hK K bb
            try simp only [List.setIfInBounds_toArray, List.set_cons_zero, List.set_cons_succ]
            generalize v13.alloc (.cells #[.bool false, .slice none 0 0] 28) = v16 at hW h2 h3 h9 h8 ⊢
            generalize v13.heap.size = g8 at h8 lh8 ⊢
            refine stepTA [4] (by decide +kernel) (by decide) ?_
            intro i hi
            obtain rfl : i = 4 := by simpa using hi
            clear hi
            refine ⟨_, rfl, by rfl, ?_⟩
            intro K hK
            go_simp
            refine (KR.out v16 _ _ _ _ (R0.out.below hW |>.more hW.size) h3.out).mono ?_
            rintro e v17 ⟨ga, gb, rfl, na, nb, bb⟩
            replace na := Lib.hid (na.mono (base' := W0.heap.size) hW.size)
            replace nb := Lib.hid (nb.mono (base' := W0.heap.size) hW.size)
            refine hK _ _ (.inr (smB hW.size bb)) ?_
            replace h2 := Lib.hid (h2.out.belowTop bb)
            replace h3 := Lib.hid ((h3.out.below bb).more bb.size)
            replace h9 := Lib.hid ((bb.block _ (block_lt h9.out)).trans h9.out)
            replace h8 := Lib.hid ((bb.block _ (block_lt h8.out)).trans h8.out)
            replace hW := hW.trans (bb.mono hW.size)
            clear hK K bb
            try simp only [List.setIfInBounds_toArray, List.set_cons_zero, List.set_cons_succ]
            ((first | (refine takeT 5 (v := ?_) rfl (by decide +kernel) (by decide +kernel) (by decide +kernel) (fun _ _ _ h => h) (by decide +kernel) (Or.inl ⟨by rfl, ?_⟩) ?_; rotate_left 1; (focus (intro W hW; have hcW := hW.at; (try dsimp only at hcW); go_simp; first | done | with_reducible rfl)); try simp only [Act.put, List.setIfInBounds_toArray, List.set_cons_zero, List.set_cons_succ]) | (refine takeW 5 (v := ?_) rfl (by decide +kernel) (by decide +kernel) (by decide +kernel) (fun _ _ _ h => h) (Or.inl ⟨by rfl, ?_⟩) ?_; rotate_left 1; (focus (intro W hW; go_simp; first | done | with_reducible rfl)); try simp only [Act.put, List.setIfInBounds_toArray, List.set_cons_zero, List.set_cons_succ]) | (refine takeW 5 rfl (by decide +kernel) (by decide +kernel) (by decide +kernel) (fun _ _ _ h => h) (Or.inr ⟨by rfl, rfl⟩) ?_; try simp only [Act.put, List.setIfInBounds_toArray, List.set_cons_zero, List.set_cons_succ]) | skip); (first | (refine takeT 6 (v := ?_) rfl (by decide +kernel) (by decide +kernel) (by decide +kernel) (fun _ _ _ h => h) (by decide +kernel) (Or.inl ⟨by rfl, ?_⟩) ?_; rotate_left 1; (focus (intro W hW; have hcW := hW.at; (try dsimp only at hcW); go_simp; first | done | with_reducible rfl)); try simp only [Act.put, List.setIfInBounds_toArray, List.set_cons_zero, List.set_cons_succ]) | (refine takeW 6 (v := ?_) rfl (by decide +kernel) (by decide +kernel) (by decide +kernel) (fun _ _ _ h => h) (Or.inl ⟨by rfl, ?_⟩) ?_; rotate_left 1; (focus (intro W hW; go_simp; first | done | with_reducible rfl)); try simp only [Act.put, List.setIfInBounds_toArray, List.set_cons_zero, List.set_cons_succ]) | (refine takeW 6 rfl (by decide +kernel) (by decide +kernel) (by decide +kernel) (fun _ _ _ h => h) (Or.inr ⟨by rfl, rfl⟩) ?_; try simp only [Act.put, List.setIfInBounds_toArray, List.set_cons_zero, List.set_cons_succ]) | skip); (first | (refine takeT 7 (v := ?_) rfl (by decide +kernel) (by decide +kernel) (by decide +kernel) (fun _ _ _ h => h) (by decide +kernel) (Or.inl ⟨by rfl, ?_⟩) ?_; rotate_left 1; (focus (intro W hW; have hcW := hW.at; (try dsimp only at hcW); go_simp; first | done | with_reducible rfl)); try simp only [Act.put, List.setIfInBounds_toArray, List.set_cons_zero, List.set_cons_succ]) | (refine takeW 7 (v := ?_) rfl (by decide +kernel) (by decide +kernel) (by decide +kernel) (fun _ _ _ h => h) (Or.inl ⟨by rfl, ?_⟩) ?_; rotate_left 1; (focus (intro W hW; go_simp; first | done | with_reducible rfl)); try simp only [Act.put, List.setIfInBounds_toArray, List.set_cons_zero, List.set_cons_succ]) | (refine takeW 7 rfl (by decide +kernel) (by decide +kernel) (by decide +kernel) (fun _ _ _ h => h) (Or.inr ⟨by rfl, rfl⟩) ?_; try simp only [Act.put, List.setIfInBounds_toArray, List.set_cons_zero, List.set_cons_succ]) | skip))
            have n89 := block_ne h8.out h9.out (by decide)
            have d0 := block_at h8.out (i := 0) (v := .bool false) rfl
            have d1 := block_at h8.out (i := 1) (v := .slice none 0 0) rfl
            have f0 := block_free h8.out 0
            have f1 := block_free h8.out 1
            refine stepT 10 rfl (by decide +kernel) (by rfl) ?_
            intro K hK
            go_simp
            have bb : Below W0.heap.size v17 ((v17.setCell ⟨g8, 0, none⟩ (.bool false)).setCell ⟨g8, 1, none⟩ (.slice (some ⟨ga, 0, none⟩) 1 1)) := below2 (Below.refl _ _) lh8 (.bool false) (.slice (some ⟨ga, 0, none⟩) 1 1)
            have hg8 := grown_trans (grown_setCell v17 ⟨g8, 0, none⟩ (.bool false)) (grown_setCell (v17.setCell ⟨g8, 0, none⟩ (.bool false)) ⟨g8, 1, none⟩ (.slice (some ⟨ga, 0, none⟩) 1 1))
            refine hK _ _ (.inr (smBelow bb)) ?_
            replace h9 := Lib.hid (block_grown h9.out hg8 (fun e => n89 (Option.some.inj e).symm))
            replace na := Lib.hid (na.out.stores2 h8.out (by decide) (by decide) (.bool false) (.slice (some ⟨ga, 0, none⟩) 1 1))
            replace nb := Lib.hid (nb.out.stores2 h8.out (by decide) (by decide) (.bool false) (.slice (some ⟨ga, 0, none⟩) 1 1))
            replace h8 : Hid (((v17.setCell ⟨g8, 0, none⟩ (.bool false)).setCell ⟨g8, 1, none⟩ (.slice (some ⟨ga, 0, none⟩) 1 1)).heap[g8]? = _) := set2 h8.out (.bool false) (.slice (some ⟨ga, 0, none⟩) 1 1)
            replace hW := hW.trans bb
            clear hK K bb hg8 d0 d1 f0 f1
            try simp only [List.setIfInBounds_toArray, List.set_cons_zero, List.set_cons_succ]
            generalize ((v17.setCell ⟨g8, 0, none⟩ (.bool false)).setCell ⟨g8, 1, none⟩ (.slice (some ⟨ga, 0, none⟩) 1 1)) = wx at h8 h9 na nb hW ⊢
            have d0 := block_at h9.out (i := 0) (v := .bool false) rfl
            have d1 := block_at h9.out (i := 1) (v := .slice none 0 0) rfl
            have f0 := block_free h9.out 0
            have f1 := block_free h9.out 1
            refine stepT 11 rfl (by decide +kernel) (by rfl) ?_
            intro K hK
            go_simp
            have bb : Below W0.heap.size wx ((wx.setCell ⟨g9, 0, none⟩ (.bool false)).setCell ⟨g9, 1, none⟩ (.slice (some ⟨gb, 0, none⟩) 2 2)) := below2 (Below.refl _ _) lh9 (.bool false) (.slice (some ⟨gb, 0, none⟩) 2 2)
            have hg9 := grown_trans (grown_setCell wx ⟨g9, 0, none⟩ (.bool false)) (grown_setCell (wx.setCell ⟨g9, 0, none⟩ (.bool false)) ⟨g9, 1, none⟩ (.slice (some ⟨gb, 0, none⟩) 2 2))
            refine hK _ _ (.inr (smBelow bb)) ?_
            replace h8 := Lib.hid (block_grown h8.out hg9 (fun e => n89 (Option.some.inj e)))
            replace na := Lib.hid (na.out.stores2 h9.out (by decide) (by decide) (.bool false) (.slice (some ⟨gb, 0, none⟩) 2 2))
            replace nb := Lib.hid (nb.out.stores2 h9.out (by decide) (by decide) (.bool false) (.slice (some ⟨gb, 0, none⟩) 2 2))
            replace h9 : Hid (((wx.setCell ⟨g9, 0, none⟩ (.bool false)).setCell ⟨g9, 1, none⟩ (.slice (some ⟨gb, 0, none⟩) 2 2)).heap[g9]? = _) := set2 h9.out (.bool false) (.slice (some ⟨gb, 0, none⟩) 2 2)
            replace hW := hW.trans bb
            clear hK K bb hg9 d0 d1 f0 f1
            refine doneT (by kernel_rfl) ?_
            exact ⟨g8, g9, ga, gb, _, _, _, _, _, _, _, _, rfl, hW, h8.out, h9.out, na.out, nb.out, lh8, lh9⟩
      · clear hi
        refine ⟨_, rfl, by rfl, ?_⟩
        intro K hK
        go_simp
        have bb := (Below.refl v1.heap.size v1).alloc (Nat.le_refl _) (.cells #[.bool false, .slice none 0 0] 28)
        refine hK _ _ (.inr (smB hW.size bb)) ?_
        have h8 := Lib.hid (heap_alloc_new v1 (.cells #[.bool false, .slice none 0 0] 28))
        have lh8 := hW.size
        replace h2 := Lib.hid (h2.out.belowTop bb)
        replace hW := hW.trans (bb.mono hW.size)
        clear hK K bb
        try simp only [List.setIfInBounds_toArray, List.set_cons_zero, List.set_cons_succ]
        generalize v1.alloc (.cells #[.bool false, .slice none 0 0] 28) = v18 at hW h2 h8 ⊢
        generalize v1.heap.size = g8 at h8 lh8 ⊢
        refine stepTA [3, 9] (by decide +kernel) (by decide) ?_
        intro i hi
        rcases (by simpa using hi : i = 3 ∨ i = 9) with rfl | rfl
        · clear hi
          refine ⟨_, rfl, by rfl, ?_⟩
          intro K hK
          go_simp
          refine (KX.out v18 _ 4 h2.out).mono ?_
          rintro e v19 ⟨A3, c3, rfl, h3, bb⟩
          replace h3 := Lib.hid h3
          refine hK _ _ (.inr (smB hW.size bb)) ?_
          replace h2 := Lib.hid (h2.out.belowTop bb)
          replace h8 := Lib.hid ((bb.block _ (block_lt h8.out)).trans h8.out)
          replace hW := hW.trans (bb.mono hW.size)
          clear hK K bb
          try simp only [List.setIfInBounds_toArray, List.set_cons_zero, List.set_cons_succ]
          refine stepTA [4, 9] (by decide +kernel) (by decide) ?_
          intro i hi
          rcases (by simpa using hi : i = 4 ∨ i = 9) with rfl | rfl
          · clear hi
            refine ⟨_, rfl, by rfl, ?_⟩
            intro K hK
            go_simp
            refine (KR.out v19 _ _ _ _ (R0.out.below hW |>.more hW.size) h3.out).mono ?_
            rintro e v20 ⟨ga, gb, rfl, na, nb, bb⟩
            replace na := Lib.hid (na.mono (base' := W0.heap.size) hW.size)
            replace nb := Lib.hid (nb.mono (base' := W0.heap.size) hW.size)
            refine hK _ _ (.inr (smB hW.size bb)) ?_
            replace h2 := Lib.hid (h2.out.belowTop bb)
            replace h8 := Lib.hid ((bb.block _ (block_lt h8.out)).trans h8.out)
            replace h3 := Lib.hid ((h3.out.below bb).more bb.size)
            replace hW := hW.trans (bb.mono hW.size)
            clear hK K bb
            try simp only [List.setIfInBounds_toArray, List.set_cons_zero, List.set_cons_succ]
            ((first | (refine takeT 5 (v := ?_) rfl (by decide +kernel) (by decide +kernel) (by decide +kernel) (fun _ _ _ h => h) (by decide +kernel) (Or.inl ⟨by rfl, ?_⟩) ?_; rotate_left 1; (focus (intro W hW; have hcW := hW.at; (try dsimp only at hcW); go_simp; first | done | with_reducible rfl)); try simp only [Act.put, List.setIfInBounds_toArray, List.set_cons_zero, List.set_cons_succ]) | (refine takeW 5 (v := ?_) rfl (by decide +kernel) (by decide +kernel) (by decide +kernel) (fun _ _ _ h => h) (Or.inl ⟨by rfl, ?_⟩) ?_; rotate_left 1; (focus (intro W hW; go_simp; first | done | with_reducible rfl)); try simp only [Act.put, List.setIfInBounds_toArray, List.set_cons_zero, List.set_cons_succ]) | (refine takeW 5 rfl (by decide +kernel) (by decide +kernel) (by decide +kernel) (fun _ _ _ h => h) (Or.inr ⟨by rfl, rfl⟩) ?_; try simp only [Act.put, List.setIfInBounds_toArray, List.set_cons_zero, List.set_cons_succ]) | skip); (first | (refine takeT 6 (v := ?_) rfl (by decide +kernel) (by decide +kernel) (by decide +kernel) (fun _ _ _ h => h) (by decide +kernel) (Or.inl ⟨by rfl, ?_⟩) ?_; rotate_left 1; (focus (intro W hW; have hcW := hW.at; (try dsimp only at hcW); go_simp; first | done | with_reducible rfl)); try simp only [Act.put, List.setIfInBounds_toArray, List.set_cons_zero, List.set_cons_succ]) | (refine takeW 6 (v := ?_) rfl (by decide +kernel) (by decide +kernel) (by decide +kernel) (fun _ _ _ h => h) (Or.inl ⟨by rfl, ?_⟩) ?_; rotate_left 1; (focus (intro W hW; go_simp; first | done | with_reducible rfl)); try simp only [Act.put, List.setIfInBounds_toArray, List.set_cons_zero, List.set_cons_succ]) | (refine takeW 6 rfl (by decide +kernel) (by decide +kernel) (by decide +kernel) (fun _ _ _ h => h) (Or.inr ⟨by rfl, rfl⟩) ?_; try simp only [Act.put, List.setIfInBounds_toArray, List.set_cons_zero, List.set_cons_succ]) | skip); (first | (refine takeT 7 (v := ?_) rfl (by decide +kernel) (by decide +kernel) (by decide +kernel) (fun _ _ _ h => h) (by decide +kernel) (Or.inl ⟨by rfl, ?_⟩) ?_; rotate_left 1; (focus (intro W hW; have hcW := hW.at; (try dsimp only at hcW); go_simp; first | done | with_reducible rfl)); try simp only [Act.put, List.setIfInBounds_toArray, List.set_cons_zero, List.set_cons_succ]) | (refine takeW 7 (v := ?_) rfl (by decide +kernel) (by decide +kernel) (by decide +kernel) (fun _ _ _ h => h) (Or.inl ⟨by rfl, ?_⟩) ?_; rotate_left 1; (focus (intro W hW; go_simp; first | done | with_reducible rfl)); try simp only [Act.put, List.setIfInBounds_toArray, List.set_cons_zero, List.set_cons_succ]) | (refine takeW 7 rfl (by decide +kernel) (by decide +kernel) (by decide +kernel) (fun _ _ _ h => h) (Or.inr ⟨by rfl, rfl⟩) ?_; try simp only [Act.put, List.setIfInBounds_toArray, List.set_cons_zero, List.set_cons_succ]) | skip))
            refine stepTA [9] (by decide +kernel) (by decide) ?_
            intro i hi
            obtain rfl : i = 9 := by simpa using hi
            clear hi
            refine ⟨_, rfl, by rfl, ?_⟩
            intro K hK
            go_simp
            have bb := (Below.refl v20.heap.size v20).alloc (Nat.le_refl _) (.cells #[.bool false, .slice none 0 0] 39)
            refine hK _ _ (.inr (smB hW.size bb)) ?_
            have h9 := Lib.hid (heap_alloc_new v20 (.cells #[.bool false, .slice none 0 0] 39))
            have lh9 := hW.size
            replace h2 := Lib.hid (h2.out.belowTop bb)
            replace h8 := Lib.hid ((bb.block _ (block_lt h8.out)).trans h8.out)
            replace h3 := Lib.hid ((h3.out.below bb).more bb.size)
            replace na := Lib.hid (na.out.below bb)
            replace nb := Lib.hid (nb.out.below bb)
            replace hW := hW.trans (bb.mono hW.size)
            clear hK K bb
            try simp only [List.setIfInBounds_toArray, List.set_cons_zero, List.set_cons_succ]
            generalize v20.alloc (.cells #[.bool false, .slice none 0 0] 39) = v21 at hW h2 h8 h3 na nb h9 ⊢
            generalize v20.heap.size = g9 at h9 lh9 ⊢
            have n89 := block_ne h8.out h9.out (by decide)
            have d0 := block_at h8.out (i := 0) (v := .bool false) rfl
            have d1 := block_at h8.out (i := 1) (v := .slice none 0 0) rfl
            have f0 := block_free h8.out 0
            have f1 := block_free h8.out 1
            refine stepT 10 rfl (by decide +kernel) (by rfl) ?_
            intro K hK
            go_simp
            have bb : Below W0.heap.size v21 ((v21.setCell ⟨g8, 0, none⟩ (.bool false)).setCell ⟨g8, 1, none⟩ (.slice (some ⟨ga, 0, none⟩) 1 1)) := below2 (Below.refl _ _) lh8 (.bool false) (.slice (some ⟨ga, 0, none⟩) 1 1)
            have hg8 := grown_trans (grown_setCell v21 ⟨g8, 0, none⟩ (.bool false)) (grown_setCell (v21.setCell ⟨g8, 0, none⟩ (.bool false)) ⟨g8, 1, none⟩ (.slice (some ⟨ga, 0, none⟩) 1 1))
            refine hK _ _ (.inr (smBelow bb)) ?_
            replace h9 := Lib.hid (block_grown h9.out hg8 (fun e => n89 (Option.some.inj e).symm))
            replace na := Lib.hid (na.out.stores2 h8.out (by decide) (by decide) (.bool false) (.slice (some ⟨ga, 0, none⟩) 1 1))
            replace nb := Lib.hid (nb.out.stores2 h8.out (by decide) (by decide) (.bool false) (.slice (some ⟨ga, 0, none⟩) 1 1))
            replace h8 : Hid (((v21.setCell ⟨g8, 0, none⟩ (.bool false)).setCell ⟨g8, 1, none⟩ (.slice (some ⟨ga, 0, none⟩) 1 1)).heap[g8]? = _) := set2 h8.out (.bool false) (.slice (some ⟨ga, 0, none⟩) 1 1)
            replace hW := hW.trans bb
            clear hK K bb hg8 d0 d1 f0 f1
            try simp only [List.setIfInBounds_toArray, List.set_cons_zero, List.set_cons_succ]
            generalize ((v21.setCell ⟨g8, 0, none⟩ (.bool false)).setCell ⟨g8, 1, none⟩ (.slice (some ⟨ga, 0, none⟩) 1 1)) = wx at h8 h9 na nb hW ⊢
            have d0 := block_at h9.out (i := 0) (v := .bool false) rfl
            have d1 := block_at h9.out (i := 1) (v := .slice none 0 0) rfl
            have f0 := block_free h9.out 0
            have f1 := block_free h9.out 1
            refine stepT 11 rfl (by decide +kernel) (by rfl) ?_
            intro K hK
            go_simp
            have bb : Below W0.heap.size wx ((wx.setCell ⟨g9, 0, none⟩ (.bool false)).setCell ⟨g9, 1, none⟩ (.slice (some ⟨gb, 0, none⟩) 2 2)) := below2 (Below.refl _ _) lh9 (.bool false) (.slice (some ⟨gb, 0, none⟩) 2 2)
            have hg9 := grown_trans (grown_setCell wx ⟨g9, 0, none⟩ (.bool false)) (grown_setCell (wx.setCell ⟨g9, 0, none⟩ (.bool false)) ⟨g9, 1, none⟩ (.slice (some ⟨gb, 0, none⟩) 2 2))
            refine hK _ _ (.inr (smBelow bb)) ?_
            replace h8 := Lib.hid (block_grown h8.out hg9 (fun e => n89 (Option.some.inj e)))
            replace na := Lib.hid (na.out.stores2 h9.out (by decide) (by decide) (.bool false) (.slice (some ⟨gb, 0, none⟩) 2 2))
            replace nb := Lib.hid (nb.out.stores2 h9.out (by decide) (by decide) (.bool false) (.slice (some ⟨gb, 0, none⟩) 2 2))
            replace h9 : Hid (((wx.setCell ⟨g9, 0, none⟩ (.bool false)).setCell ⟨g9, 1, none⟩ (.slice (some ⟨gb, 0, none⟩) 2 2)).heap[g9]? = _) := set2 h9.out (.bool false) (.slice (some ⟨gb, 0, none⟩) 2 2)
            replace hW := hW.trans bb
            clear hK K bb hg9 d0 d1 f0 f1
            refine doneT (by kernel_rfl) ?_
            exact ⟨g8, g9, ga, gb, _, _, _, _, _, _, _, _, rfl, hW, h8.out, h9.out, na.out, nb.out, lh8, lh9⟩
          · clear hi
            refine ⟨_, rfl, by rfl, ?_⟩
            intro K hK
            go_simp
            have bb := (Below.refl v19.heap.size v19).alloc (Nat.le_refl _) (.cells #[.bool false, .slice none 0 0] 39)
            refine hK _ _ (.inr (smB hW.size bb)) ?_
            have h9 := Lib.hid (heap_alloc_new v19 (.cells #[.bool false, .slice none 0 0] 39))
            have lh9 := hW.size
            replace h2 := Lib.hid (h2.out.belowTop bb)
            replace h8 := Lib.hid ((bb.block _ (block_lt h8.out)).trans h8.out)
            replace h3 := Lib.hid ((h3.out.below bb).more bb.size)
            replace hW := hW.trans (bb.mono hW.size)
            clear hK K bb
            try simp only [List.setIfInBounds_toArray, List.set_cons_zero, List.set_cons_succ]
            generalize v19.alloc (.cells #[.bool false, .slice none 0 0] 39) = v22 at hW h2 h8 h3 h9 ⊢
            generalize v19.heap.size = g9 at h9 lh9 ⊢
            refine stepTA [4] (by decide +kernel) (by decide) ?_
            intro i hi
            obtain rfl : i = 4 := by simpa using hi
            clear hi
            refine ⟨_, rfl, by rfl, ?_⟩
            intro K hK
            go_simp
            refine (KR.out v22 _ _ _ _ (R0.out.below hW |>.more hW.size) h3.out).mono ?_
            rintro e v23 ⟨ga, gb, rfl, na, nb, bb⟩
            replace na := Lib.hid (na.mono (base' := W0.heap.size) hW.size)
            replace nb := Lib.hid (nb.mono (base' := W0.heap.size) hW.size)
            refine hK _ _ (.inr (smB hW.size bb)) ?_
            replace h2 := Lib.hid (h2.out.belowTop bb)
            replace h8 := Lib.hid ((bb.block _ (block_lt h8.out)).trans h8.out)
            replace h3 := Lib.hid ((h3.out.below bb).more bb.size)
            replace h9 := Lib.hid ((bb.block _ (block_lt h9.out)).trans h9.out)
            replace hW := hW.trans (bb.mono hW.size)
            clear hK K bb
            try simp only [List.setIfInBounds_toArray, List.set_cons_zero, List.set_cons_succ]
            ((first | (refine takeT 5 (v := ?_) rfl (by decide +kernel) (by decide +kernel) (by decide +kernel) (fun _ _ _ h => h) (by decide +kernel) (Or.inl ⟨by rfl, ?_⟩) ?_; rotate_left 1; (focus (intro W hW; have hcW := hW.at; (try dsimp only at hcW); go_simp; first | done | with_reducible rfl)); try simp only [Act.put, List.setIfInBounds_toArray, List.set_cons_zero, List.set_cons_succ]) | (refine takeW 5 (v := ?_) rfl (by decide +kernel) (by decide +kernel) (by decide +kernel) (fun _ _ _ h => h) (Or.inl ⟨by rfl, ?_⟩) ?_; rotate_left 1; (focus (intro W hW; go_simp; first | done | with_reducible rfl)); try simp only [Act.put, List.setIfInBounds_toArray, List.set_cons_zero, List.set_cons_succ]) | (refine takeW 5 rfl (by decide +kernel) (by decide +kernel) (by decide +kernel) (fun _ _ _ h => h) (Or.inr ⟨by rfl, rfl⟩) ?_; try simp only [Act.put, List.setIfInBounds_toArray, List.set_cons_zero, List.set_cons_succ]) | skip); (first | (refine takeT 6 (v := ?_) rfl (by decide +kernel) (by decide +kernel) (by decide +kernel) (fun _ _ _ h => h) (by decide +kernel) (Or.inl ⟨by rfl, ?_⟩) ?_; rotate_left 1; (focus (intro W hW; have hcW := hW.at; (try dsimp only at hcW); go_simp; first | done | with_reducible rfl)); try simp only [Act.put, List.setIfInBounds_toArray, List.set_cons_zero, List.set_cons_succ]) | (refine takeW 6 (v := ?_) rfl (by decide +kernel) (by decide +kernel) (by decide +kernel) (fun _ _ _ h => h) (Or.inl ⟨by rfl, ?_⟩) ?_; rotate_left 1; (focus (intro W hW; go_simp; first | done | with_reducible rfl)); try simp only [Act.put, List.setIfInBounds_toArray, List.set_cons_zero, List.set_cons_succ]) | (refine takeW 6 rfl (by decide +kernel) (by decide +kernel) (by decide +kernel) (fun _ _ _ h => h) (Or.inr ⟨by rfl, rfl⟩) ?_; try simp only [Act.put, List.setIfInBounds_toArray, List.set_cons_zero, List.set_cons_succ]) | skip); (first | (refine takeT 7 (v := ?_) rfl (by decide +kernel) (by decide +kernel) (by decide +kernel) (fun _ _ _ h => h) (by decide +kernel) (Or.inl ⟨by rfl, ?_⟩) ?_; rotate_left 1; (focus (intro W hW; have hcW := hW.at; (try dsimp only at hcW); go_simp; first | done | with_reducible rfl)); try simp only [Act.put, List.setIfInBounds_toArray, List.set_cons_zero, List.set_cons_succ]) | (refine takeW 7 (v := ?_) rfl (by decide +kernel) (by decide +kernel) (by decide +kernel) (fun _ _ _ h => h) (Or.inl ⟨by rfl, ?_⟩) ?_; rotate_left 1; (focus (intro W hW; go_simp; first | done | with_reducible rfl)); try simp only [Act.put, List.setIfInBounds_toArray, List.set_cons_zero, List.set_cons_succ]) | (refine takeW 7 rfl (by decide +kernel) (by decide +kernel) (by decide +kernel) (fun _ _ _ h => h) (Or.inr ⟨by rfl, rfl⟩) ?_; try simp only [Act.put, List.setIfInBounds_toArray, List.set_cons_zero, List.set_cons_succ]) | skip))
            have n89 := block_ne h8.out h9.out (by decide)
            have d0 := block_at h8.out (i := 0) (v := .bool false) rfl
            have d1 := block_at h8.out (i := 1) (v := .slice none 0 0) rfl
            have f0 := block_free h8.out 0
            have f1 := block_free h8.out 1
            refine stepT 10 rfl (by decide +kernel) (by rfl) ?_
            intro K hK
            go_simp
            have bb : Below W0.heap.size v23 ((v23.setCell ⟨g8, 0, none⟩ (.bool false)).setCell ⟨g8, 1, none⟩ (.slice (some ⟨ga, 0, none⟩) 1 1)) := below2 (Below.refl _ _) lh8 (.bool false) (.slice (some ⟨ga, 0, none⟩) 1 1)
            have hg8 := grown_trans (grown_setCell v23 ⟨g8, 0, none⟩ (.bool false)) (grown_setCell (v23.setCell ⟨g8, 0, none⟩ (.bool false)) ⟨g8, 1, none⟩ (.slice (some ⟨ga, 0, none⟩) 1 1))
            refine hK _ _ (.inr (smBelow bb)) ?_
            replace h9 := Lib.hid (block_grown h9.out hg8 (fun e => n89 (Option.some.inj e).symm))
            replace na := Lib.hid (na.out.stores2 h8.out (by decide) (by decide) (.bool false) (.slice (some ⟨ga, 0, none⟩) 1 1))
            replace nb := Lib.hid (nb.out.stores2 h8.out (by decide) (by decide) (.bool false) (.slice (some ⟨ga, 0, none⟩) 1 1))
            replace h8 : Hid (((v23.setCell ⟨g8, 0, none⟩ (.bool false)).setCell ⟨g8, 1, none⟩ (.slice (some ⟨ga, 0, none⟩) 1 1)).heap[g8]? = _) := set2 h8.out (.bool false) (.slice (some ⟨ga, 0, none⟩) 1 1)
            replace hW := hW.trans bb
            clear hK K bb hg8 d0 d1 f0 f1
            try simp only [List.setIfInBounds_toArray, List.set_cons_zero, List.set_cons_succ]
            generalize ((v23.setCell ⟨g8, 0, none⟩ (.bool false)).setCell ⟨g8, 1, none⟩ (.slice (some ⟨ga, 0, none⟩) 1 1)) = wx at h8 h9 na nb hW ⊢
            have d0 := block_at h9.out (i := 0) (v := .bool false) rfl
            have d1 := block_at h9.out (i := 1) (v := .slice none 0 0) rfl
            have f0 := block_free h9.out 0
            have f1 := block_free h9.out 1
            refine stepT 11 rfl (by decide +kernel) (by rfl) ?_
            intro K hK
            go_simp
            have bb : Below W0.heap.size wx ((wx.setCell ⟨g9, 0, none⟩ (.bool false)).setCell ⟨g9, 1, none⟩ (.slice (some ⟨gb, 0, none⟩) 2 2)) := below2 (Below.refl _ _) lh9 (.bool false) (.slice (some ⟨gb, 0, none⟩) 2 2)
            have hg9 := grown_trans (grown_setCell wx ⟨g9, 0, none⟩ (.bool false)) (grown_setCell (wx.setCell ⟨g9, 0, none⟩ (.bool false)) ⟨g9, 1, none⟩ (.slice (some ⟨gb, 0, none⟩) 2 2))
            refine hK _ _ (.inr (smBelow bb)) ?_
            replace h8 := Lib.hid (block_grown h8.out hg9 (fun e => n89 (Option.some.inj e)))
            replace na := Lib.hid (na.out.stores2 h9.out (by decide) (by decide) (.bool false) (.slice (some ⟨gb, 0, none⟩) 2 2))
            replace nb := Lib.hid (nb.out.stores2 h9.out (by decide) (by decide) (.bool false) (.slice (some ⟨gb, 0, none⟩) 2 2))
            replace h9 : Hid (((wx.setCell ⟨g9, 0, none⟩ (.bool false)).setCell ⟨g9, 1, none⟩ (.slice (some ⟨gb, 0, none⟩) 2 2)).heap[g9]? = _) := set2 h9.out (.bool false) (.slice (some ⟨gb, 0, none⟩) 2 2)
            replace hW := hW.trans bb
            clear hK K bb hg9 d0 d1 f0 f1
            refine doneT (by kernel_rfl) ?_
            exact ⟨g8, g9, ga, gb, _, _, _, _, _, _, _, _, rfl, hW, h8.out, h9.out, na.out, nb.out, lh8, lh9⟩
        · clear hi
          refine ⟨_, rfl, by rfl, ?_⟩
          intro K hK
          go_simp
          have bb := (Below.refl v18.heap.size v18).alloc (Nat.le_refl _) (.cells #[.bool false, .slice none 0 0] 39)
          refine hK _ _ (.inr (smB hW.size bb)) ?_
          have h9 := Lib.hid (heap_alloc_new v18 (.cells #[.bool false, .slice none 0 0] 39))
          have lh9 := hW.size
          replace h2 := Lib.hid (h2.out.belowTop bb)
          replace h8 := Lib.hid ((bb.block _ (block_lt h8.out)).trans h8.out)
          replace hW := hW.trans (bb.mono hW.size)
          clear hK K bb
          try simp only [List.setIfInBounds_toArray, List.set_cons_zero, List.set_cons_succ]
          generalize v18.alloc (.cells #[.bool false, .slice none 0 0] 39) = v24 at hW h2 h8 h9 ⊢
          generalize v18.heap.size = g9 at h9 lh9 ⊢
          refine stepTA [3] (by decide +kernel) (by decide) ?_
          intro i hi
          obtain rfl : i = 3 := by simpa using hi
          clear hi
          refine ⟨_, rfl, by rfl, ?_⟩
          intro K hK
          go_simp
          refine (KX.out v24 _ 4 h2.out).mono ?_
          rintro e v25 ⟨A3, c3, rfl, h3, bb⟩
          replace h3 := Lib.hid h3
          refine hK _ _ (.inr (smB hW.size bb)) ?_
          replace h2 := Lib.hid (h2.out.belowTop bb)
          replace h8 := Lib.hid ((bb.block _ (block_lt h8.out)).trans h8.out)
          replace h9 := Lib.hid ((bb.block _ (block_lt h9.out)).trans h9.out)
          replace hW := hW.trans (bb.mono hW.size)
          clear hK K bb
          try simp only [List.setIfInBounds_toArray, List.set_cons_zero, List.set_cons_succ]
          refine stepTA [4] (by decide +kernel) (by decide) ?_
          intro i hi
          obtain rfl : i = 4 := by simpa using hi
          clear hi
          refine ⟨_, rfl, by rfl, ?_⟩
          intro K hK
          go_simp
          refine (KR.out v25 _ _ _ _ (R0.out.below hW |>.more hW.size) h3.out).mono ?_
          rintro e v26 ⟨ga, gb, rfl, na, nb, bb⟩
          replace na := Lib.hid (na.mono (base' := W0.heap.size) hW.size)
          replace nb := Lib.hid (nb.mono (base' := W0.heap.size) hW.size)
          refine hK _ _ (.inr (smB hW.size bb)) ?_
          replace h2 := Lib.hid (h2.out.belowTop bb)
          replace h8 := Lib.hid ((bb.block _ (block_lt h8.out)).trans h8.out)
          replace h9 := Lib.hid ((bb.block _ (block_lt h9.out)).trans h9.out)
          replace h3 := Lib.hid ((h3.out.below bb).more bb.size)
          replace hW := hW.trans (bb.mono hW.size)
          clear hK K bb
          try simp only [List.setIfInBounds_toArray, List.set_cons_zero, List.set_cons_succ]
          ((first | (refine takeT 5 (v := ?_) rfl (by decide +kernel) (by decide +kernel) (by decide +kernel) (fun _ _ _ h => h) (by decide +kernel) (Or.inl ⟨by rfl, ?_⟩) ?_; rotate_left 1; (focus (intro W hW; have hcW := hW.at; (try dsimp only at hcW); go_simp; first | done | with_reducible rfl)); try simp only [Act.put, List.setIfInBounds_toArray, List.set_cons_zero, List.set_cons_succ]) | (refine takeW 5 (v := ?_) rfl (by decide +kernel) (by decide +kernel) (by decide +kernel) (fun _ _ _ h => h) (Or.inl ⟨by rfl, ?_⟩) ?_; rotate_left 1; (focus (intro W hW; go_simp; first | done | with_reducible rfl)); try simp only [Act.put, List.setIfInBounds_toArray, List.set_cons_zero, List.set_cons_succ]) | (refine takeW 5 rfl (by decide +kernel) (by decide +kernel) (by decide +kernel) (fun _ _ _ h => h) (Or.inr ⟨by rfl, rfl⟩) ?_; try simp only [Act.put, List.setIfInBounds_toArray, List.set_cons_zero, List.set_cons_succ]) | skip); (first | (refine takeT 6 (v := ?_) rfl (by decide +kernel) (by decide +kernel) (by decide +kernel) (fun _ _ _ h => h) (by decide +kernel) (Or.inl ⟨by rfl, ?_⟩) ?_; rotate_left 1; (focus (intro W hW; have hcW := hW.at; (try dsimp only at hcW); go_simp; first | done | with_reducible rfl)); try simp only [Act.put, List.setIfInBounds_toArray, List.set_cons_zero, List.set_cons_succ]) | (refine takeW 6 (v := ?_) rfl (by decide +kernel) (by decide +kernel) (by decide +kernel) (fun _ _ _ h => h) (Or.inl ⟨by rfl, ?_⟩) ?_; rotate_left 1; (focus (intro W hW; go_simp; first | done | with_reducible rfl)); try simp only [Act.put, List.setIfInBounds_toArray, List.set_cons_zero, List.set_cons_succ]) | (refine takeW 6 rfl (by decide +kernel) (by decide +kernel) (by decide +kernel) (fun _ _ _ h => h) (Or.inr ⟨by rfl, rfl⟩) ?_; try simp only [Act.put, List.setIfInBounds_toArray, List.set_cons_zero, List.set_cons_succ]) | skip); (first | (refine takeT 7 (v := ?_) rfl (by decide +kernel) (by decide +kernel) (by decide +kernel) (fun _ _ _ h => h) (by decide +kernel) (Or.inl ⟨by rfl, ?_⟩) ?_; rotate_left 1; (focus (intro W hW; have hcW := hW.at; (try dsimp only at hcW); go_simp; first | done | with_reducible rfl)); try simp only [Act.put, List.setIfInBounds_toArray, List.set_cons_zero, List.set_cons_succ]) | (refine takeW 7 (v := ?_) rfl (by decide +kernel) (by decide +kernel) (by decide +kernel) (fun _ _ _ h => h) (Or.inl ⟨by rfl, ?_⟩) ?_; rotate_left 1; (focus (intro W hW; go_simp; first | done | with_reducible rfl)); try simp only [Act.put, List.setIfInBounds_toArray, List.set_cons_zero, List.set_cons_succ]) | (refine takeW 7 rfl (by decide +kernel) (by decide +kernel) (by decide +kernel) (fun _ _ _ h => h) (Or.inr ⟨by rfl, rfl⟩) ?_; try simp only [Act.put, List.setIfInBounds_toArray, List.set_cons_zero, List.set_cons_succ]) | skip))
          have n89 := block_ne h8.out h9.out (by decide)
          have d0 := block_at h8.out (i := 0) (v := .bool false) rfl
          have d1 := block_at h8.out (i := 1) (v := .slice none 0 0) rfl
          have f0 := block_free h8.out 0
          have f1 := block_free h8.out 1
          refine stepT 10 rfl (by decide +kernel) (by rfl) ?_
          intro K hK
          go_simp
          have bb : Below W0.heap.size v26 ((v26.setCell ⟨g8, 0, none⟩ (.bool false)).setCell ⟨g8, 1, none⟩ (.slice (some ⟨ga, 0, none⟩) 1 1)) := below2 (Below.refl _ _) lh8 (.bool false) (.slice (some ⟨ga, 0, none⟩) 1 1)
          have hg8 := grown_trans (grown_setCell v26 ⟨g8, 0, none⟩ (.bool false)) (grown_setCell (v26.setCell ⟨g8, 0, none⟩ (.bool false)) ⟨g8, 1, none⟩ (.slice (some ⟨ga, 0, none⟩) 1 1))
          refine hK _ _ (.inr (smBelow bb)) ?_
          replace h9 := Lib.hid (block_grown h9.out hg8 (fun e => n89 (Option.some.inj e).symm))
          replace na := Lib.hid (na.out.stores2 h8.out (by decide) (by decide) (.bool false) (.slice (some ⟨ga, 0, none⟩) 1 1))
          replace nb := Lib.hid (nb.out.stores2 h8.out (by decide) (by decide) (.bool false) (.slice (some ⟨ga, 0, none⟩) 1 1))
          replace h8 : Hid (((v26.setCell ⟨g8, 0, none⟩ (.bool false)).setCell ⟨g8, 1, none⟩ (.slice (some ⟨ga, 0, none⟩) 1 1)).heap[g8]? = _) := set2 h8.out (.bool false) (.slice (some ⟨ga, 0, none⟩) 1 1)
          replace hW := hW.trans bb
          clear hK K bb hg8 d0 d1 f0 f1
          try simp only [List.setIfInBounds_toArray, List.set_cons_zero, List.set_cons_succ]
          generalize ((v26.setCell ⟨g8, 0, none⟩ (.bool false)).setCell ⟨g8, 1, none⟩ (.slice (some ⟨ga, 0, none⟩) 1 1)) = wx at h8 h9 na nb hW ⊢
          have d0 := block_at h9.out (i := 0) (v := .bool false) rfl
          have d1 := block_at h9.out (i := 1) (v := .slice none 0 0) rfl
          have f0 := block_free h9.out 0
          have f1 := block_free h9.out 1
          refine stepT 11 rfl (by decide +kernel) (by rfl) ?_
          intro K hK
          go_simp
          have bb : Below W0.heap.size wx ((wx.setCell ⟨g9, 0, none⟩ (.bool false)).setCell ⟨g9, 1, none⟩ (.slice (some ⟨gb, 0, none⟩) 2 2)) := below2 (Below.refl _ _) lh9 (.bool false) (.slice (some ⟨gb, 0, none⟩) 2 2)
          have hg9 := grown_trans (grown_setCell wx ⟨g9, 0, none⟩ (.bool false)) (grown_setCell (wx.setCell ⟨g9, 0, none⟩ (.bool false)) ⟨g9, 1, none⟩ (.slice (some ⟨gb, 0, none⟩) 2 2))
          refine hK _ _ (.inr (smBelow bb)) ?_
          replace h8 := Lib.hid (block_grown h8.out hg9 (fun e => n89 (Option.some.inj e)))
          replace na := Lib.hid (na.out.stores2 h9.out (by decide) (by decide) (.bool false) (.slice (some ⟨gb, 0, none⟩) 2 2))
          replace nb := Lib.hid (nb.out.stores2 h9.out (by decide) (by decide) (.bool false) (.slice (some ⟨gb, 0, none⟩) 2 2))
          replace h9 : Hid (((wx.setCell ⟨g9, 0, none⟩ (.bool false)).setCell ⟨g9, 1, none⟩ (.slice (some ⟨gb, 0, none⟩) 2 2)).heap[g9]? = _) := set2 h9.out (.bool false) (.slice (some ⟨gb, 0, none⟩) 2 2)
          replace hW := hW.trans bb
          clear hK K bb hg9 d0 d1 f0 f1
          refine doneT (by kernel_rfl) ?_
          exact ⟨g8, g9, ga, gb, _, _, _, _, _, _, _, _, rfl, hW, h8.out, h9.out, na.out, nb.out, lh8, lh9⟩
      · clear hi
        refine ⟨_, rfl, by rfl, ?_⟩
        intro K hK
        go_simp
        have bb := (Below.refl v1.heap.size v1).alloc (Nat.le_refl _) (.cells #[.bool false, .slice none 0 0] 39)
        refine hK _ _ (.inr (smB hW.size bb)) ?_
        have h9 := Lib.hid (heap_alloc_new v1 (.cells #[.bool false, .slice none 0 0] 39))
        have lh9 := hW.size
        replace h2 := Lib.hid (h2.out.belowTop bb)
        replace hW := hW.trans (bb.mono hW.size)
        clear hK K bb
        try simp only [List.setIfInBounds_toArray, List.set_cons_zero, List.set_cons_succ]
        generalize v1.alloc (.cells #[.bool false, .slice none 0 0] 39) = v27 at hW h2 h9 ⊢
        generalize v1.heap.size = g9 at h9 lh9 ⊢
        refine stepTA [3, 8] (by decide +kernel) (by decide) ?_
        intro i hi
        rcases (by simpa using hi : i = 3 ∨ i = 8) with rfl | rfl
        · clear hi
          refine ⟨_, rfl, by rfl, ?_⟩
          intro K hK
          go_simp
          refine (KX.out v27 _ 4 h2.out).mono ?_
          rintro e v28 ⟨A3, c3, rfl, h3, bb⟩
          replace h3 := Lib.hid h3
          refine hK _ _ (.inr (smB hW.size bb)) ?_
          replace h2 := Lib.hid (h2.out.belowTop bb)
          replace h9 := Lib.hid ((bb.block _ (block_lt h9.out)).trans h9.out)
          replace hW := hW.trans (bb.mono hW.size)
          clear hK K bb
          try simp only [List.setIfInBounds_toArray, List.set_cons_zero, List.set_cons_succ]
          refine stepTA [4, 8] (by decide +kernel) (by decide) ?_
          intro i hi
          rcases (by simpa using hi : i = 4 ∨ i = 8) with rfl | rfl
          · clear hi
            refine ⟨_, rfl, by rfl, ?_⟩
            intro K hK
            go_simp
            refine (KR.out v28 _ _ _ _ (R0.out.below hW |>.more hW.size) h3.out).mono ?_
            rintro e v29 ⟨ga, gb, rfl, na, nb, bb⟩
            replace na := Lib.hid (na.mono (base' := W0.heap.size) hW.size)
            replace nb := Lib.hid (nb.mono (base' := W0.heap.size) hW.size)
            refine hK _ _ (.inr (smB hW.size bb)) ?_
            replace h2 := Lib.hid (h2.out.belowTop bb)
            replace h9 := Lib.hid ((bb.block _ (block_lt h9.out)).trans h9.out)
            replace h3 := Lib.hid ((h3.out.below bb).more bb.size)
            replace hW := hW.trans (bb.mono hW.size)
            clear hK K bb
            try simp only [List.setIfInBounds_toArray, List.set_cons_zero, List.set_cons_succ]
            ((first | (refine takeT 5 (v := ?_) rfl (by decide +kernel) (by decide +kernel) (by decide +kernel) (fun _ _ _ h => h) (by decide +kernel) (Or.inl ⟨by rfl, ?_⟩) ?_; rotate_left 1; (focus (intro W hW; have hcW := hW.at; (try dsimp only at hcW); go_simp; first | done | with_reducible rfl)); try simp only [Act.put, List.setIfInBounds_toArray, List.set_cons_zero, List.set_cons_succ]) | (refine takeW 5 (v := ?_) rfl (by decide +kernel) (by decide +kernel) (by decide +kernel) (fun _ _ _ h => h) (Or.inl ⟨by rfl, ?_⟩) ?_; rotate_left 1; (focus (intro W hW; go_simp; first | done | with_reducible rfl)); try simp only [Act.put, List.setIfInBounds_toArray, List.set_cons_zero, List.set_cons_succ]) | (refine takeW 5 rfl (by decide +kernel) (by decide +kernel) (by decide +kernel) (fun _ _ _ h => h) (Or.inr ⟨by rfl, rfl⟩) ?_; try simp only [Act.put, List.setIfInBounds_toArray, List.set_cons_zero, List.set_cons_succ]) | skip); (first | (refine takeT 6 (v := ?_) rfl (by decide +kernel) (by decide +kernel) (by decide +kernel) (fun _ _ _ h => h) (by decide +kernel) (Or.inl ⟨by rfl, ?_⟩) ?_; rotate_left 1; (focus (intro W hW; have hcW := hW.at; (try dsimp only at hcW); go_simp; first | done | with_reducible rfl)); try simp only [Act.put, List.setIfInBounds_toArray, List.set_cons_zero, List.set_cons_succ]) | (refine takeW 6 (v := ?_) rfl (by decide +kernel) (by decide +kernel) (by decide +kernel) (fun _ _ _ h => h) (Or.inl ⟨by rfl, ?_⟩) ?_; rotate_left 1; (focus (intro W hW; go_simp; first | done | with_reducible rfl)); try simp only [Act.put, List.setIfInBounds_toArray, List.set_cons_zero, List.set_cons_succ]) | (refine takeW 6 rfl (by decide +kernel) (by decide +kernel) (by decide +kernel) (fun _ _ _ h => h) (Or.inr ⟨by rfl, rfl⟩) ?_; try simp only [Act.put, List.setIfInBounds_toArray, List.set_cons_zero, List.set_cons_succ]) | skip); (first | (refine takeT 7 (v := ?_) rfl (by decide +kernel) (by decide +kernel) (by decide +kernel) (fun _ _ _ h => h) (by decide +kernel) (Or.inl ⟨by rfl, ?_⟩) ?_; rotate_left 1; (focus (intro W hW; have hcW := hW.at; (try dsimp only at hcW); go_simp; first | done | with_reducible rfl)); try simp only [Act.put, List.setIfInBounds_toArray, List.set_cons_zero, List.set_cons_succ]) | (refine takeW 7 (v := ?_) rfl (by decide +kernel) (by decide +kernel) (by decide +kernel) (fun _ _ _ h => h) (Or.inl ⟨by rfl, ?_⟩) ?_; rotate_left 1; (focus (intro W hW; go_simp; first | done | with_reducible rfl)); try simp only [Act.put, List.setIfInBounds_toArray, List.set_cons_zero, List.set_cons_succ]) | (refine takeW 7 rfl (by decide +kernel) (by decide +kernel) (by decide +kernel) (fun _ _ _ h => h) (Or.inr ⟨by rfl, rfl⟩) ?_; try simp only [Act.put, List.setIfInBounds_toArray, List.set_cons_zero, List.set_cons_succ]) | skip))
            refine stepTA [8] (by decide +kernel) (by decide) ?_
            intro i hi
            obtain rfl : i = 8 := by simpa using hi
            clear hi
            refine ⟨_, rfl, by rfl, ?_⟩
            intro K hK
            go_simp
            have bb := (Below.refl v29.heap.size v29).alloc (Nat.le_refl _) (.cells #[.bool false, .slice none 0 0] 28)
            refine hK _ _ (.inr (smB hW.size bb)) ?_
            have h8 := Lib.hid (heap_alloc_new v29 (.cells #[.bool false, .slice none 0 0] 28))
            have lh8 := hW.size
            replace h2 := Lib.hid (h2.out.belowTop bb)
            replace h9 := Lib.hid ((bb.block _ (block_lt h9.out)).trans h9.out)
            replace h3 := Lib.hid ((h3.out.below bb).more bb.size)
            replace na := Lib.hid (na.out.below bb)
            replace nb := Lib.hid (nb.out.below bb)
            replace hW := hW.trans (bb.mono hW.size)
            clear hK K bb
            try simp only [List.setIfInBounds_toArray, List.set_cons_zero, List.set_cons_succ]
            generalize v29.alloc (.cells #[.bool false, .slice none 0 0] 28) = v30 at hW h2 h9 h3 na nb h8 ⊢
            generalize v29.heap.size = g8 at h8 lh8 ⊢
            have n89 := block_ne h8.out h9.out (by decide)
            have d0 := block_at h8.out (i := 0) (v := .bool false) rfl
            have d1 := block_at h8.out (i := 1) (v := .slice none 0 0) rfl
            have f0 := block_free h8.out 0
            have f1 := block_free h8.out 1
            refine stepT 10 rfl (by decide +kernel) (by rfl) ?_
            intro K hK
            go_simp
            have bb : Below W0.heap.size v30 ((v30.setCell ⟨g8, 0, none⟩ (.bool false)).setCell ⟨g8, 1, none⟩ (.slice (some ⟨ga, 0, none⟩) 1 1)) := below2 (Below.refl _ _) lh8 (.bool false) (.slice (some ⟨ga, 0, none⟩) 1 1)
            have hg8 := grown_trans (grown_setCell v30 ⟨g8, 0, none⟩ (.bool false)) (grown_setCell (v30.setCell ⟨g8, 0, none⟩ (.bool false)) ⟨g8, 1, none⟩ (.slice (some ⟨ga, 0, none⟩) 1 1))
            refine hK _ _ (.inr (smBelow bb)) ?_
            replace h9 := Lib.hid (block_grown h9.out hg8 (fun e => n89 (Option.some.inj e).symm))
            replace na := Lib.hid (na.out.stores2 h8.out (by decide) (by decide) (.bool false) (.slice (some ⟨ga, 0, none⟩) 1 1))
            replace nb := Lib.hid (nb.out.stores2 h8.out (by decide) (by decide) (.bool false) (.slice (some ⟨ga, 0, none⟩) 1 1))
            replace h8 : Hid (((v30.setCell ⟨g8, 0, none⟩ (.bool false)).setCell ⟨g8, 1, none⟩ (.slice (some ⟨ga, 0, none⟩) 1 1)).heap[g8]? = _) := set2 h8.out (.bool false) (.slice (some ⟨ga, 0, none⟩) 1 1)
            replace hW := hW.trans bb
            clear hK K bb hg8 d0 d1 f0 f1
            try simp only [List.setIfInBounds_toArray, List.set_cons_zero, List.set_cons_succ]
            generalize ((v30.setCell ⟨g8, 0, none⟩ (.bool false)).setCell ⟨g8, 1, none⟩ (.slice (some ⟨ga, 0, none⟩) 1 1)) = wx at h8 h9 na nb hW ⊢
            have d0 := block_at h9.out (i := 0) (v := .bool false) rfl
            have d1 := block_at h9.out (i := 1) (v := .slice none 0 0) rfl
            have f0 := block_free h9.out 0
            have f1 := block_free h9.out 1
            refine stepT 11 rfl (by decide +kernel) (by rfl) ?_
            intro K hK
            go_simp
            have bb : Below W0.heap.size wx ((wx.setCell ⟨g9, 0, none⟩ (.bool false)).setCell ⟨g9, 1, none⟩ (.slice (some ⟨gb, 0, none⟩) 2 2)) := below2 (Below.refl _ _) lh9 (.bool false) (.slice (some ⟨gb, 0, none⟩) 2 2)
            have hg9 := grown_trans (grown_setCell wx ⟨g9, 0, none⟩ (.bool false)) (grown_setCell (wx.setCell ⟨g9, 0, none⟩ (.bool false)) ⟨g9, 1, none⟩ (.slice (some ⟨gb, 0, none⟩) 2 2))
            refine hK _ _ (.inr (smBelow bb)) ?_
            replace h8 := Lib.hid (block_grown h8.out hg9 (fun e => n89 (Option.some.inj e)))
            replace na := Lib.hid (na.out.stores2 h9.out (by decide) (by decide) (.bool false) (.slice (some ⟨gb, 0, none⟩) 2 2))
            replace nb := Lib.hid (nb.out.stores2 h9.out (by decide) (by decide) (.bool false) (.slice (some ⟨gb, 0, none⟩) 2 2))
            replace h9 : Hid (((wx.setCell ⟨g9, 0, none⟩ (.bool false)).setCell ⟨g9, 1, none⟩ (.slice (some ⟨gb, 0, none⟩) 2 2)).heap[g9]? = _) := set2 h9.out (.bool false) (.slice (some ⟨gb, 0, none⟩) 2 2)
            replace hW := hW.trans bb
            clear hK K bb hg9 d0 d1 f0 f1
            refine doneT (by kernel_rfl) ?_
            exact ⟨g8, g9, ga, gb, _, _, _, _, _, _, _, _, rfl, hW, h8.out, h9.out, na.out, nb.out, lh8, lh9⟩
          · clear hi
            refine ⟨_, rfl, by rfl, ?_⟩
            intro K hK
            go_simp
            have bb := (Below.refl v28.heap.size v28).alloc (Nat.le_refl _) (.cells #[.bool false, .slice none 0 0] 28)
            refine hK _ _ (.inr (smB hW.size bb)) ?_
            have h8 := Lib.hid (heap_alloc_new v28 (.cells #[.bool false, .slice none 0 0] 28))
            have lh8 := hW.size
            replace h2 := Lib.hid (h2.out.belowTop bb)
            replace h9 := Lib.hid ((bb.block _ (block_lt h9.out)).trans h9.out)
            replace h3 := Lib.hid ((h3.out.below bb).more bb.size)
            replace hW := hW.trans (bb.mono hW.size)
            clear hK K bb
            try simp only [List.setIfInBounds_toArray, List.set_cons_zero, List.set_cons_succ]
            generalize v28.alloc (.cells #[.bool false, .slice none 0 0] 28) = v31 at hW h2 h9 h3 h8 ⊢
            generalize v28.heap.size = g8 at h8 lh8 ⊢
            refine stepTA [4] (by decide +kernel) (by decide) ?_
            intro i hi
            obtain rfl : i = 4 := by simpa using hi
            clear hi
            refine ⟨_, rfl, by rfl, ?_⟩
            intro K hK
            go_simp
            refine (KR.out v31 _ _ _ _ (R0.out.below hW |>.more hW.size) h3.out).mono ?_
            rintro e v32 ⟨ga, gb, rfl, na, nb, bb⟩
            replace na := Lib.hid (na.mono (base' := W0.heap.size) hW.size)
            replace nb := Lib.hid (nb.mono (base' := W0.heap.size) hW.size)
            refine hK _ _ (.inr (smB hW.size bb)) ?_
            replace h2 := Lib.hid (h2.out.belowTop bb)
            replace h9 := Lib.hid ((bb.block _ (block_lt h9.out)).trans h9.out)
            replace h3 := Lib.hid ((h3.out.below bb).more bb.size)
            replace h8 := Lib.hid ((bb.block _ (block_lt h8.out)).trans h8.out)
            replace hW := hW.trans (bb.mono hW.size)
            clear hK K bb
            try simp only [List.setIfInBounds_toArray, List.set_cons_zero, List.set_cons_succ]
            ((first | (refine takeT 5 (v := ?_) rfl (by decide +kernel) (by decide +kernel) (by decide +kernel) (fun _ _ _ h => h) (by decide +kernel) (Or.inl ⟨by rfl, ?_⟩) ?_; rotate_left 1; (focus (intro W hW; have hcW := hW.at; (try dsimp only at hcW); go_simp; first | done | with_reducible rfl)); try simp only [Act.put, List.setIfInBounds_toArray, List.set_cons_zero, List.set_cons_succ]) | (refine takeW 5 (v := ?_) rfl (by decide +kernel) (by decide +kernel) (by decide +kernel) (fun _ _ _ h => h) (Or.inl ⟨by rfl, ?_⟩) ?_; rotate_left 1; (focus (intro W hW; go_simp; first | done | with_reducible rfl)); try simp only [Act.put, List.setIfInBounds_toArray, List.set_cons_zero, List.set_cons_succ]) | (refine takeW 5 rfl (by decide +kernel) (by decide +kernel) (by decide +kernel) (fun _ _ _ h => h) (Or.inr ⟨by rfl, rfl⟩) ?_; try simp only [Act.put, List.setIfInBounds_toArray, List.set_cons_zero, List.set_cons_succ]) | skip); (first | (refine takeT 6 (v := ?_) rfl (by decide +kernel) (by decide +kernel) (by decide +kernel) (fun _ _ _ h => h) (by decide +kernel) (Or.inl ⟨by rfl, ?_⟩) ?_; rotate_left 1; (focus (intro W hW; have hcW := hW.at; (try dsimp only at hcW); go_simp; first | done | with_reducible rfl)); try simp only [Act.put, List.setIfInBounds_toArray, List.set_cons_zero, List.set_cons_succ]) | (refine takeW 6 (v := ?_) rfl (by decide +kernel) (by decide +kernel) (by decide +kernel) (fun _ _ _ h => h) (Or.inl ⟨by rfl, ?_⟩) ?_; rotate_left 1; (focus (intro W hW; go_simp; first | done | with_reducible rfl)); try simp only [Act.put, List.setIfInBounds_toArray, List.set_cons_zero, List.set_cons_succ]) | (refine takeW 6 rfl (by decide +kernel) (by decide +kernel) (by decide +kernel) (fun _ _ _ h => h) (Or.inr ⟨by rfl, rfl⟩) ?_; try simp only [Act.put, List.setIfInBounds_toArray, List.set_cons_zero, List.set_cons_succ]) | skip); (first | (refine takeT 7 (v := ?_) rfl (by decide +kernel) (by decide +kernel) (by decide +kernel) (fun _ _ _ h => h) (by decide +kernel) (Or.inl ⟨by rfl, ?_⟩) ?_; rotate_left 1; (focus (intro W hW; have hcW := hW.at; (try dsimp only at hcW); go_simp; first | done | with_reducible rfl)); try simp only [Act.put, List.setIfInBounds_toArray, List.set_cons_zero, List.set_cons_succ]) | (refine takeW 7 (v := ?_) rfl (by decide +kernel) (by decide +kernel) (by decide +kernel) (fun _ _ _ h => h) (Or.inl ⟨by rfl, ?_⟩) ?_; rotate_left 1; (focus (intro W hW; go_simp; first | done | with_reducible rfl)); try simp only [Act.put, List.setIfInBounds_toArray, List.set_cons_zero, List.set_cons_succ]) | (refine takeW 7 rfl (by decide +kernel) (by decide +kernel) (by decide +kernel) (fun _ _ _ h => h) (Or.inr ⟨by rfl, rfl⟩) ?_; try simp only [Act.put, List.setIfInBounds_toArray, List.set_cons_zero, List.set_cons_succ]) | skip))
            have n89 := block_ne h8.out h9.out (by decide)
            have d0 := block_at h8.out (i := 0) (v := .bool false) rfl
            have d1 := block_at h8.out (i := 1) (v := .slice none 0 0) rfl
            have f0 := block_free h8.out 0
            have f1 := block_free h8.out 1
            refine stepT 10 rfl (by decide +kernel) (by rfl) ?_
            intro K hK
            go_simp
            have bb : Below W0.heap.size v32 ((v32.setCell ⟨g8, 0, none⟩ (.bool false)).setCell ⟨g8, 1, none⟩ (.slice (some ⟨ga, 0, none⟩) 1 1)) := below2 (Below.refl _ _) lh8 (.bool false) (.slice (some ⟨ga, 0, none⟩) 1 1)
            have hg8 := grown_trans (grown_setCell v32 ⟨g8, 0, none⟩ (.bool false)) (grown_setCell (v32.setCell ⟨g8, 0, none⟩ (.bool false)) ⟨g8, 1, none⟩ (.slice (some ⟨ga, 0, none⟩) 1 1))
            refine hK _ _ (.inr (smBelow bb)) ?_
            replace h9 := Lib.hid (block_grown h9.out hg8 (fun e => n89 (Option.some.inj e).symm))
            replace na := Lib.hid (na.out.stores2 h8.out (by decide) (by decide) (.bool false) (.slice (some ⟨ga, 0, none⟩) 1 1))
            replace nb := Lib.hid (nb.out.stores2 h8.out (by decide) (by decide) (.bool false) (.slice (some ⟨ga, 0, none⟩) 1 1))
            replace h8 : Hid (((v32.setCell ⟨g8, 0, none⟩ (.bool false)).setCell ⟨g8, 1, none⟩ (.slice (some ⟨ga, 0, none⟩) 1 1)).heap[g8]? = _) := set2 h8.out (.bool false) (.slice (some ⟨ga, 0, none⟩) 1 1)
            replace hW := hW.trans bb
            clear hK K bb hg8 d0 d1 f0 f1
            try simp only [List.setIfInBounds_toArray, List.set_cons_zero, List.set_cons_succ]
            generalize ((v32.setCell ⟨g8, 0, none⟩ (.bool false)).setCell ⟨g8, 1, none⟩ (.slice (some ⟨ga, 0, none⟩) 1 1)) = wx at h8 h9 na nb hW ⊢
            have d0 := block_at h9.out (i := 0) (v := .bool false) rfl
            have d1 := block_at h9.out (i := 1) (v := .slice none 0 0) rfl
            have f0 := block_free h9.out 0
            have f1 := block_free h9.out 1
            refine stepT 11 rfl (by decide +kernel) (by rfl) ?_
            intro K hK
            go_simp
            have bb : Below W0.heap.size wx ((wx.setCell ⟨g9, 0, none⟩ (.bool false)).setCell ⟨g9, 1, none⟩ (.slice (some ⟨gb, 0, none⟩) 2 2)) := below2 (Below.refl _ _) lh9 (.bool false) (.slice (some ⟨gb, 0, none⟩) 2 2)
            have hg9 := grown_trans (grown_setCell wx ⟨g9, 0, none⟩ (.bool false)) (grown_setCell (wx.setCell ⟨g9, 0, none⟩ (.bool false)) ⟨g9, 1, none⟩ (.slice (some ⟨gb, 0, none⟩) 2 2))
            refine hK _ _ (.inr (smBelow bb)) ?_
            replace h8 := Lib.hid (block_grown h8.out hg9 (fun e => n89 (Option.some.inj e)))
            replace na := Lib.hid (na.out.stores2 h9.out (by decide) (by decide) (.bool false) (.slice (some ⟨gb, 0, none⟩) 2 2))
            replace nb := Lib.hid (nb.out.stores2 h9.out (by decide) (by decide) (.bool false) (.slice (some ⟨gb, 0, none⟩) 2 2))
            replace h9 : Hid (((wx.setCell ⟨g9, 0, none⟩ (.bool false)).setCell ⟨g9, 1, none⟩ (.slice (some ⟨gb, 0, none⟩) 2 2)).heap[g9]? = _) := set2 h9.out (.bool false) (.slice (some ⟨gb, 0, none⟩) 2 2)
            replace hW := hW.trans bb
            clear hK K bb hg9 d0 d1 f0 f1
            refine doneT (by kernel_rfl) ?_
            exact ⟨g8, g9, ga, gb, _, _, _, _, _, _, _, _, rfl, hW, h8.out, h9.out, na.out, nb.out, lh8, lh9⟩
        · clear hi
          refine ⟨_, rfl, by rfl, ?_⟩
          intro K hK
          go_simp
          have bb := (Below.refl v27.heap.size v27).alloc (Nat.le_refl _) (.cells #[.bool false, .slice none 0 0] 28)
          refine hK _ _ (.inr (smB hW.size bb)) ?_
          have h8 := Lib.hid (heap_alloc_new v27 (.cells #[.bool false, .slice none 0 0] 28))
          have lh8 := hW.size
          replace h2 := Lib.hid (h2.out.belowTop bb)
          replace h9 := Lib.hid ((bb.block _ (block_lt h9.out)).trans h9.out)
          replace hW := hW.trans (bb.mono hW.size)
          clear hK K bb
          try simp only [List.setIfInBounds_toArray, List.set_cons_zero, List.set_cons_succ]
          generalize v27.alloc (.cells #[.bool false, .slice none 0 0] 28) = v33 at hW h2 h9 h8 ⊢
          generalize v27.heap.size = g8 at h8 lh8 ⊢
          refine stepTA [3] (by decide +kernel) (by decide) ?_
          intro i hi
          obtain rfl : i = 3 := by simpa using hi
          clear hi
          refine ⟨_, rfl, by rfl, ?_⟩
          intro K hK
          go_simp
          refine (KX.out v33 _ 4 h2.out).mono ?_
          rintro e v34 ⟨A3, c3, rfl, h3, bb⟩
          replace h3 := Lib.hid h3
          refine hK _ _ (.inr (smB hW.size bb)) ?_
          replace h2 := Lib.hid (h2.out.belowTop bb)
          replace h9 := Lib.hid ((bb.block _ (block_lt h9.out)).trans h9.out)
          replace h8 := Lib.hid ((bb.block _ (block_lt h8.out)).trans h8.out)
          replace hW := hW.trans (bb.mono hW.size)
          clear hK K bb
          try simp only [List.setIfInBounds_toArray, List.set_cons_zero, List.set_cons_succ]
          refine stepTA [4] (by decide +kernel) (by decide) ?_
          intro i hi
          obtain rfl : i = 4 := by simpa using hi
          clear hi
          refine ⟨_, rfl, by rfl, ?_⟩
          intro K hK
          go_simp
          refine (KR.out v34 _ _ _ _ (R0.out.below hW |>.more hW.size) h3.out).mono ?_
          rintro e v35 ⟨ga, gb, rfl, na, nb, bb⟩
          replace na := Lib.hid (na.mono (base' := W0.heap.size) hW.size)
          replace nb := Lib.hid (nb.mono (base' := W0.heap.size) hW.size)
          refine hK _ _ (.inr (smB hW.size bb)) ?_
          replace h2 := Lib.hid (h2.out.belowTop bb)
          replace h9 := Lib.hid ((bb.block _ (block_lt h9.out)).trans h9.out)
          replace h8 := Lib.hid ((bb.block _ (block_lt h8.out)).trans h8.out)
          replace h3 := Lib.hid ((h3.out.below bb).more bb.size)
          replace hW := hW.trans (bb.mono hW.size)
          clear hK K bb
          try simp only [List.setIfInBounds_toArray, List.set_cons_zero, List.set_cons_succ]
          ((first | (refine takeT 5 (v := ?_) rfl (by decide +kernel) (by decide +kernel) (by decide +kernel) (fun _ _ _ h => h) (by decide +kernel) (Or.inl ⟨by rfl, ?_⟩) ?_; rotate_left 1; (focus (intro W hW; have hcW := hW.at; (try dsimp only at hcW); go_simp; first | done | with_reducible rfl)); try simp only [Act.put, List.setIfInBounds_toArray, List.set_cons_zero, List.set_cons_succ]) | (refine takeW 5 (v := ?_) rfl (by decide +kernel) (by decide +kernel) (by decide +kernel) (fun _ _ _ h => h) (Or.inl ⟨by rfl, ?_⟩) ?_; rotate_left 1; (focus (intro W hW; go_simp; first | done | with_reducible rfl)); try simp only [Act.put, List.setIfInBounds_toArray, List.set_cons_zero, List.set_cons_succ]) | (refine takeW 5 rfl (by decide +kernel) (by decide +kernel) (by decide +kernel) (fun _ _ _ h => h) (Or.inr ⟨by rfl, rfl⟩) ?_; try simp only [Act.put, List.setIfInBounds_toArray, List.set_cons_zero, List.set_cons_succ]) | skip); (first | (refine takeT 6 (v := ?_) rfl (by decide +kernel) (by decide +kernel) (by decide +kernel) (fun _ _ _ h => h) (by decide +kernel) (Or.inl ⟨by rfl, ?_⟩) ?_; rotate_left 1; (focus (intro W hW; have hcW := hW.at; (try dsimp only at hcW); go_simp; first | done | with_reducible rfl)); try simp only [Act.put, List.setIfInBounds_toArray, List.set_cons_zero, List.set_cons_succ]) | (refine takeW 6 (v := ?_) rfl (by decide +kernel) (by decide +kernel) (by decide +kernel) (fun _ _ _ h => h) (Or.inl ⟨by rfl, ?_⟩) ?_; rotate_left 1; (focus (intro W hW; go_simp; first | done | with_reducible rfl)); try simp only [Act.put, List.setIfInBounds_toArray, List.set_cons_zero, List.set_cons_succ]) | (refine takeW 6 rfl (by decide +kernel) (by decide +kernel) (by decide +kernel) (fun _ _ _ h => h) (Or.inr ⟨by rfl, rfl⟩) ?_; try simp only [Act.put, List.setIfInBounds_toArray, List.set_cons_zero, List.set_cons_succ]) | skip); (first | (refine takeT 7 (v := ?_) rfl (by decide +kernel) (by decide +kernel) (by decide +kernel) (fun _ _ _ h => h) (by decide +kernel) (Or.inl ⟨by rfl, ?_⟩) ?_; rotate_left 1; (focus (intro W hW; have hcW := hW.at; (try dsimp only at hcW); go_simp; first | done | with_reducible rfl)); try simp only [Act.put, List.setIfInBounds_toArray, List.set_cons_zero, List.set_cons_succ]) | (refine takeW 7 (v := ?_) rfl (by decide +kernel) (by decide +kernel) (by decide +kernel) (fun _ _ _ h => h) (Or.inl ⟨by rfl, ?_⟩) ?_; rotate_left 1; (focus (intro W hW; go_simp; first | done | with_reducible rfl)); try simp only [Act.put, List.setIfInBounds_toArray, List.set_cons_zero, List.set_cons_succ]) | (refine takeW 7 rfl (by decide +kernel) (by decide +kernel) (by decide +kernel) (fun _ _ _ h => h) (Or.inr ⟨by rfl, rfl⟩) ?_; try simp only [Act.put, List.setIfInBounds_toArray, List.set_cons_zero, List.set_cons_succ]) | skip))
          have n89 := block_ne h8.out h9.out (by decide)
          have d0 := block_at h8.out (i := 0) (v := .bool false) rfl
          have d1 := block_at h8.out (i := 1) (v := .slice none 0 0) rfl
          have f0 := block_free h8.out 0
          have f1 := block_free h8.out 1
          refine stepT 10 rfl (by decide +kernel) (by rfl) ?_
          intro K hK
          go_simp
          have bb : Below W0.heap.size v35 ((v35.setCell ⟨g8, 0, none⟩ (.bool false)).setCell ⟨g8, 1, none⟩ (.slice (some ⟨ga, 0, none⟩) 1 1)) := below2 (Below.refl _ _) lh8 (.bool false) (.slice (some ⟨ga, 0, none⟩) 1 1)
          have hg8 := grown_trans (grown_setCell v35 ⟨g8, 0, none⟩ (.bool false)) (grown_setCell (v35.setCell ⟨g8, 0, none⟩ (.bool false)) ⟨g8, 1, none⟩ (.slice (some ⟨ga, 0, none⟩) 1 1))
          refine hK _ _ (.inr (smBelow bb)) ?_
          replace h9 := Lib.hid (block_grown h9.out hg8 (fun e => n89 (Option.some.inj e).symm))
          replace na := Lib.hid (na.out.stores2 h8.out (by decide) (by decide) (.bool false) (.slice (some ⟨ga, 0, none⟩) 1 1))
          replace nb := Lib.hid (nb.out.stores2 h8.out (by decide) (by decide) (.bool false) (.slice (some ⟨ga, 0, none⟩) 1 1))
          replace h8 : Hid (((v35.setCell ⟨g8, 0, none⟩ (.bool false)).setCell ⟨g8, 1, none⟩ (.slice (some ⟨ga, 0, none⟩) 1 1)).heap[g8]? = _) := set2 h8.out (.bool false) (.slice (some ⟨ga, 0, none⟩) 1 1)
          replace hW := hW.trans bb
          clear hK K bb hg8 d0 d1 f0 f1
          try simp only [List.setIfInBounds_toArray, List.set_cons_zero, List.set_cons_succ]
          generalize ((v35.setCell ⟨g8, 0, none⟩ (.bool false)).setCell ⟨g8, 1, none⟩ (.slice (some ⟨ga, 0, none⟩) 1 1)) = wx at h8 h9 na nb hW ⊢
          have d0 := block_at h9.out (i := 0) (v := .bool false) rfl
          have d1 := block_at h9.out (i := 1) (v := .slice none 0 0) rfl
          have f0 := block_free h9.out 0
          have f1 := block_free h9.out 1
          refine stepT 11 rfl (by decide +kernel) (by rfl) ?_
          intro K hK
          go_simp
          have bb : Below W0.heap.size wx ((wx.setCell ⟨g9, 0, none⟩ (.bool false)).setCell ⟨g9, 1, none⟩ (.slice (some ⟨gb, 0, none⟩) 2 2)) := below2 (Below.refl _ _) lh9 (.bool false) (.slice (some ⟨gb, 0, none⟩) 2 2)
          have hg9 := grown_trans (grown_setCell wx ⟨g9, 0, none⟩ (.bool false)) (grown_setCell (wx.setCell ⟨g9, 0, none⟩ (.bool false)) ⟨g9, 1, none⟩ (.slice (some ⟨gb, 0, none⟩) 2 2))
          refine hK _ _ (.inr (smBelow bb)) ?_
          replace h8 := Lib.hid (block_grown h8.out hg9 (fun e => n89 (Option.some.inj e)))
          replace na := Lib.hid (na.out.stores2 h9.out (by decide) (by decide) (.bool false) (.slice (some ⟨gb, 0, none⟩) 2 2))
          replace nb := Lib.hid (nb.out.stores2 h9.out (by decide) (by decide) (.bool false) (.slice (some ⟨gb, 0, none⟩) 2 2))
          replace h9 : Hid (((wx.setCell ⟨g9, 0, none⟩ (.bool false)).setCell ⟨g9, 1, none⟩ (.slice (some ⟨gb, 0, none⟩) 2 2)).heap[g9]? = _) := set2 h9.out (.bool false) (.slice (some ⟨gb, 0, none⟩) 2 2)
          replace hW := hW.trans bb
          clear hK K bb hg9 d0 d1 f0 f1
          refine doneT (by kernel_rfl) ?_
          exact ⟨g8, g9, ga, gb, _, _, _, _, _, _, _, _, rfl, hW, h8.out, h9.out, na.out, nb.out, lh8, lh9⟩
    · clear hi
      refine ⟨_, rfl, by rfl, ?_⟩
      intro K hK
      go_simp
      have bb := (Below.refl v0.heap.size v0).alloc (Nat.le_refl _) (.cells #[.bool false, .slice none 0 0] 28)
      refine hK _ _ (.inr (smB hW.size bb)) ?_
      have h8 := Lib.hid (heap_alloc_new v0 (.cells #[.bool false, .slice none 0 0] 28))
      have lh8 := hW.size
      replace hW := hW.trans (bb.mono hW.size)
      clear hK K bb
      try simp only [List.setIfInBounds_toArray, List.set_cons_zero, List.set_cons_succ]
      generalize v0.alloc (.cells #[.bool false, .slice none 0 0] 28) = v36 at hW h8 ⊢
      generalize v0.heap.size = g8 at h8 lh8 ⊢
      refine stepTA [2, 9] (by decide +kernel) (by decide) ?_
      intro i hi
      rcases (by simpa using hi : i = 2 ∨ i = 9) with rfl | rfl
      · clear hi
        refine ⟨_, rfl, by rfl, ?_⟩
        intro K hK
        go_simp
        have bb := (Below.refl v36.heap.size v36).alloc (Nat.le_refl _) (.cells #[.int .u8 0, .int .u8 2, .int .u8 1, .int .u8 0] 5)
        have h2 := Lib.hid (show Rd (v36.alloc (.cells #[.int .u8 0, .int .u8 2, .int .u8 1, .int .u8 0] 5)) (v36.alloc (.cells #[.int .u8 0, .int .u8 2, .int .u8 1, .int .u8 0] 5)).heap.size (some ⟨v36.heap.size, 0, none⟩) 4 [0, 2, 1, 0] from rd_top v36 5 [0, 2, 1, 0] (by simp))
        refine hK _ _ (.inr (smB hW.size bb)) ?_
        replace h8 := Lib.hid ((bb.block _ (block_lt h8.out)).trans h8.out)
        replace hW := hW.trans (bb.mono hW.size)
        clear hK K bb
        try simp only [List.setIfInBounds_toArray, List.set_cons_zero, List.set_cons_succ]
        generalize v36.alloc (.cells #[.int .u8 0, .int .u8 2, .int .u8 1, .int .u8 0] 5) = v37 at hW h8 h2 ⊢
        generalize v36.heap.size = q2 at h2 ⊢
        refine stepTA [3, 9] (by decide +kernel) (by decide) ?_
        intro i hi
        rcases (by simpa using hi : i = 3 ∨ i = 9) with rfl | rfl
        · clear hi
          refine ⟨_, rfl, by rfl, ?_⟩
          intro K hK
          go_simp
          refine (KX.out v37 _ 4 h2.out).mono ?_
          rintro e v38 ⟨A3, c3, rfl, h3, bb⟩
          replace h3 := Lib.hid h3
          refine hK _ _ (.inr (smB hW.size bb)) ?_
          replace h8 := Lib.hid ((bb.block _ (block_lt h8.out)).trans h8.out)
          replace h2 := Lib.hid (h2.out.belowTop bb)
          replace hW := hW.trans (bb.mono hW.size)
          clear hK K bb
          try simp only [List.setIfInBounds_toArray, List.set_cons_zero, List.set_cons_succ]
          refine stepTA [4, 9] (by decide +kernel) (by decide) ?_
          intro i hi
          rcases (by simpa using hi : i = 4 ∨ i = 9) with rfl | rfl
          · clear hi
            refine ⟨_, rfl, by rfl, ?_⟩
            intro K hK
            go_simp
            refine (KR.out v38 _ _ _ _ (R0.out.below hW |>.more hW.size) h3.out).mono ?_
            rintro e v39 ⟨ga, gb, rfl, na, nb, bb⟩
            replace na := Lib.hid (na.mono (base' := W0.heap.size) hW.size)
            replace nb := Lib.hid (nb.mono (base' := W0.heap.size) hW.size)
            refine hK _ _ (.inr (smB hW.size bb)) ?_
            replace h8 := Lib.hid ((bb.block _ (block_lt h8.out)).trans h8.out)
            replace h2 := Lib.hid (h2.out.belowTop bb)
            replace h3 := Lib.hid ((h3.out.below bb).more bb.size)
            replace hW := hW.trans (bb.mono hW.size)
            clear hK K bb
            try simp only [List.setIfInBounds_toArray, List.set_cons_zero, List.set_cons_succ]
            ((first | (refine takeT 5 (v := ?_) rfl (by decide +kernel) (by decide +kernel) (by decide +kernel) (fun _ _ _ h => h) (by decide +kernel) (Or.inl ⟨by rfl, ?_⟩) ?_; rotate_left 1; (focus (intro W hW; have hcW := hW.at; (try dsimp only at hcW); go_simp; first | done | with_reducible rfl)); try simp only [Act.put, List.setIfInBounds_toArray, List.set_cons_zero, List.set_cons_succ]) | (refine takeW 5 (v := ?_) rfl (by decide +kernel) (by decide +kernel) (by decide +kernel) (fun _ _ _ h => h) (Or.inl ⟨by rfl, ?_⟩) ?_; rotate_left 1; (focus (intro W hW; go_simp; first | done | with_reducible rfl)); try simp only [Act.put, List.setIfInBounds_toArray, List.set_cons_zero, List.set_cons_succ]) | (refine takeW 5 rfl (by decide +kernel) (by decide +kernel) (by decide +kernel) (fun _ _ _ h => h) (Or.inr ⟨by rfl, rfl⟩) ?_; try simp only [Act.put, List.setIfInBounds_toArray, List.set_cons_zero, List.set_cons_succ]) | skip); (first | (refine takeT 6 (v := ?_) rfl (by decide +kernel) (by decide +kernel) (by decide +kernel) (fun _ _ _ h => h) (by decide +kernel) (Or.inl ⟨by rfl, ?_⟩) ?_; rotate_left 1; (focus (intro W hW; have hcW := hW.at; (try dsimp only at hcW); go_simp; first | done | with_reducible rfl)); try simp only [Act.put, List.setIfInBounds_toArray, List.set_cons_zero, List.set_cons_succ]) | (refine takeW 6 (v := ?_) rfl (by decide +kernel) (by decide +kernel) (by decide +kernel) (fun _ _ _ h => h) (Or.inl ⟨by rfl, ?_⟩) ?_; rotate_left 1; (focus (intro W hW; go_simp; first | done | with_reducible rfl)); try simp only [Act.put, List.setIfInBounds_toArray, List.set_cons_zero, List.set_cons_succ]) | (refine takeW 6 rfl (by decide +kernel) (by decide +kernel) (by decide +kernel) (fun _ _ _ h => h) (Or.inr ⟨by rfl, rfl⟩) ?_; try simp only [Act.put, List.setIfInBounds_toArray, List.set_cons_zero, List.set_cons_succ]) | skip); (first | (refine takeT 7 (v := ?_) rfl (by decide +kernel) (by decide +kernel) (by decide +kernel) (fun _ _ _ h => h) (by decide +kernel) (Or.inl ⟨by rfl, ?_⟩) ?_; rotate_left 1; (focus (intro W hW; have hcW := hW.at; (try dsimp only at hcW); go_simp; first | done | with_reducible rfl)); try simp only [Act.put, List.setIfInBounds_toArray, List.set_cons_zero, List.set_cons_succ]) | (refine takeW 7 (v := ?_) rfl (by decide +kernel) (by decide +kernel) (by decide +kernel) (fun _ _ _ h => h) (Or.inl ⟨by rfl, ?_⟩) ?_; rotate_left 1; (focus (intro W hW; go_simp; first | done | with_reducible rfl)); try simp only [Act.put, List.setIfInBounds_toArray, List.set_cons_zero, List.set_cons_succ]) | (refine takeW 7 rfl (by decide +kernel) (by decide +kernel) (by decide +kernel) (fun _ _ _ h => h) (Or.inr ⟨by rfl, rfl⟩) ?_; try simp only [Act.put, List.setIfInBounds_toArray, List.set_cons_zero, List.set_cons_succ]) | skip))
            refine stepTA [9] (by decide +kernel) (by decide) ?_
            intro i hi
            obtain rfl : i = 9 := by simpa using hi
            clear hi
            refine ⟨_, rfl, by rfl, ?_⟩
            intro K hK
            go_simp
            have bb := (Below.refl v39.heap.size v39).alloc (Nat.le_refl _) (.cells #[.bool false, .slice none 0 0] 39)
            refine hK _ _ (.inr (smB hW.size bb)) ?_
            have h9 := Lib.hid (heap_alloc_new v39 (.cells #[.bool false, .slice none 0 0] 39))
            have lh9 := hW.size
            replace h8 := Lib.hid ((bb.block _ (block_lt h8.out)).trans h8.out)
            replace h2 := Lib.hid (h2.out.belowTop bb)
            replace h3 := Lib.hid ((h3.out.below bb).more bb.size)
            replace na := Lib.hid (na.out.below bb)
            replace nb := Lib.hid (nb.out.below bb)
            replace hW := hW.trans (bb.mono hW.size)
            clear hK K bb
            try simp only [List.setIfInBounds_toArray, List.set_cons_zero, List.set_cons_succ]
            generalize v39.alloc (.cells #[.bool false, .slice none 0 0] 39) = v40 at hW h8 h2 h3 na nb h9 ⊢
            generalize v39.heap.size = g9 at h9 lh9 ⊢
            have n89 := block_ne h8.out h9.out (by decide)
            have d0 := block_at h8.out (i := 0) (v := .bool false) rfl
            have d1 := block_at h8.out (i := 1) (v := .slice none 0 0) rfl
            have f0 := block_free h8.out 0
            have f1 := block_free h8.out 1
            refine stepT 10 rfl (by decide +kernel) (by rfl) ?_
            intro K hK
            go_simp
            have bb : Below W0.heap.size v40 ((v40.setCell ⟨g8, 0, none⟩ (.bool false)).setCell ⟨g8, 1, none⟩ (.slice (some ⟨ga, 0, none⟩) 1 1)) := below2 (Below.refl _ _) lh8 (.bool false) (.slice (some ⟨ga, 0, none⟩) 1 1)
            have hg8 := grown_trans (grown_setCell v40 ⟨g8, 0, none⟩ (.bool false)) (grown_setCell (v40.setCell ⟨g8, 0, none⟩ (.bool false)) ⟨g8, 1, none⟩ (.slice (some ⟨ga, 0, none⟩) 1 1))
            refine hK _ _ (.inr (smBelow bb)) ?_
            replace h9 := Lib.hid (block_grown h9.out hg8 (fun e => n89 (Option.some.inj e).symm))
            replace na := Lib.hid (na.out.stores2 h8.out (by decide) (by decide) (.bool false) (.slice (some ⟨ga, 0, none⟩) 1 1))
            replace nb := Lib.hid (nb.out.stores2 h8.out (by decide) (by decide) (.bool false) (.slice (some ⟨ga, 0, none⟩) 1 1))
            replace h8 : Hid (((v40.setCell ⟨g8, 0, none⟩ (.bool false)).setCell ⟨g8, 1, none⟩ (.slice (some ⟨ga, 0, none⟩) 1 1)).heap[g8]? = _) := set2 h8.out (.bool false) (.slice (some ⟨ga, 0, none⟩) 1 1)
            replace hW := hW.trans bb
            clear hK K bb hg8 d0 d1 f0 f1
            try simp only [List.setIfInBounds_toArray, List.set_cons_zero, List.set_cons_succ]
            generalize ((v40.setCell ⟨g8, 0, none⟩ (.bool false)).setCell ⟨g8, 1, none⟩ (.slice (some ⟨ga, 0, none⟩) 1 1)) = wx at h8 h9 na nb hW ⊢
            have d0 := block_at h9.out (i := 0) (v := .bool false) rfl
            have d1 := block_at h9.out (i := 1) (v := .slice none 0 0) rfl
            have f0 := block_free h9.out 0
            have f1 := block_free h9.out 1
            refine stepT 11 rfl (by decide +kernel) (by rfl) ?_
            intro K hK
            go_simp
            have bb : Below W0.heap.size wx ((wx.setCell ⟨g9, 0, none⟩ (.bool false)).setCell ⟨g9, 1, none⟩ (.slice (some ⟨gb, 0, none⟩) 2 2)) := below2 (Below.refl _ _) lh9 (.bool false) (.slice (some ⟨gb, 0, none⟩) 2 2)
            have hg9 := grown_trans (grown_setCell wx ⟨g9, 0, none⟩ (.bool false)) (grown_setCell (wx.setCell ⟨g9, 0, none⟩ (.bool false)) ⟨g9, 1, none⟩ (.slice (some ⟨gb, 0, none⟩) 2 2))
            refine hK _ _ (.inr (smBelow bb)) ?_
            replace h8 := Lib.hid (block_grown h8.out hg9 (fun e => n89 (Option.some.inj e)))
            replace na := Lib.hid (na.out.stores2 h9.out (by decide) (by decide) (.bool false) (.slice (some ⟨gb, 0, none⟩) 2 2))
            replace nb := Lib.hid (nb.out.stores2 h9.out (by decide) (by decide) (.bool false) (.slice (some ⟨gb, 0, none⟩) 2 2))
            replace h9 : Hid (((wx.setCell ⟨g9, 0, none⟩ (.bool false)).setCell ⟨g9, 1, none⟩ (.slice (some ⟨gb, 0, none⟩) 2 2)).heap[g9]? = _) := set2 h9.out (.bool false) (.slice (some ⟨gb, 0, none⟩) 2 2)
            replace hW := hW.trans bb
            clear hK K bb hg9 d0 d1 f0 f1
            refine doneT (by kernel_rfl) ?_
            exact ⟨g8, g9, ga, gb, _, _, _, _, _, _, _, _, rfl, hW, h8.out, h9.out, na.out, nb.out, lh8, lh9⟩
          · clear hi
            refine ⟨_, rfl, by rfl, ?_⟩
            intro K hK
            go_simp
            have bb := (Below.refl v38.heap.size v38).alloc (Nat.le_refl _) (.cells #[.bool false, .slice none 0 0] 39)
            refine hK _ _ (.inr (smB hW.size bb)) ?_
            have h9 := Lib.hid (heap_alloc_new v38 (.cells #[.bool false, .slice none 0 0] 39))
            have lh9 := hW.size
            replace h8 := Lib.hid ((bb.block _ (block_lt h8.out)).trans h8.out)
            replace h2 := Lib.hid (h2.out.belowTop bb)
            replace h3 := Lib.hid ((h3.out.below bb).more bb.size)
            replace hW := hW.trans (bb.mono hW.size)
            clear hK K bb
            try simp only [List.setIfInBounds_toArray, List.set_cons_zero, List.set_cons_succ]
            generalize v38.alloc (.cells #[.bool false, .slice none 0 0] 39) = v41 at hW h8 h2 h3 h9 ⊢
            generalize v38.heap.size = g9 at h9 lh9 ⊢
            refine stepTA [4] (by decide +kernel) (by decide) ?_
            intro i hi
            obtain rfl : i = 4 := by simpa using hi
            clear hi
            refine ⟨_, rfl, by rfl, ?_⟩
            intro K hK
            go_simp
            refine (KR.out v41 _ _ _ _ (R0.out.below hW |>.more hW.size) h3.out).mono ?_
            rintro e v42 ⟨ga, gb, rfl, na, nb, bb⟩
            replace na := Lib.hid (na.mono (base' := W0.heap.size) hW.size)
            replace nb := Lib.hid (nb.mono (base' := W0.heap.size) hW.size)
            refine hK _ _ (.inr (smB hW.size bb)) ?_
            replace h8 := Lib.hid ((bb.block _ (block_lt h8.out)).trans h8.out)
            replace h2 := Lib.hid (h2.out.belowTop bb)
            replace h3 := Lib.hid ((h3.out.below bb).more bb.size)
            replace h9 := Lib.hid ((bb.block _ (block_lt h9.out)).trans h9.out)
            replace hW := hW.trans (bb.mono hW.size)
            clear hK K bb
            try simp only [List.setIfInBounds_toArray, List.set_cons_zero, List.set_cons_succ]
            ((first | (refine takeT 5 (v := ?_) rfl (by decide +kernel) (by decide +kernel) (by decide +kernel) (fun _ _ _ h => h) (by decide +kernel) (Or.inl ⟨by rfl, ?_⟩) ?_; rotate_left 1; (focus (intro W hW; have hcW := hW.at; (try dsimp only at hcW); go_simp; first | done | with_reducible rfl)); try simp only [Act.put, List.setIfInBounds_toArray, List.set_cons_zero, List.set_cons_succ]) | (refine takeW 5 (v := ?_) rfl (by decide +kernel) (by decide +kernel) (by decide +kernel) (fun _ _ _ h => h) (Or.inl ⟨by rfl, ?_⟩) ?_; rotate_left 1; (focus (intro W hW; go_simp; first | done | with_reducible rfl)); try simp only [Act.put, List.setIfInBounds_toArray, List.set_cons_zero, List.set_cons_succ]) | (refine takeW 5 rfl (by decide +kernel) (by decide +kernel) (by decide +kernel) (fun _ _ _ h => h) (Or.inr ⟨by rfl, rfl⟩) ?_; try simp only [Act.put, List.setIfInBounds_toArray, List.set_cons_zero, List.set_cons_succ]) | skip); (first | (refine takeT 6 (v := ?_) rfl (by decide +kernel) (by decide +kernel) (by decide +kernel) (fun _ _ _ h => h) (by decide +kernel) (Or.inl ⟨by rfl, ?_⟩) ?_; rotate_left 1; (focus (intro W hW; have hcW := hW.at; (try dsimp only at hcW); go_simp; first | done | with_reducible rfl)); try simp only [Act.put, List.setIfInBounds_toArray, List.set_cons_zero, List.set_cons_succ]) | (refine takeW 6 (v := ?_) rfl (by decide +kernel) (by decide +kernel) (by decide +kernel) (fun _ _ _ h => h) (Or.inl ⟨by rfl, ?_⟩) ?_; rotate_left 1; (focus (intro W hW; go_simp; first | done | with_reducible rfl)); try simp only [Act.put, List.setIfInBounds_toArray, List.set_cons_zero, List.set_cons_succ]) | (refine takeW 6 rfl (by decide +kernel) (by decide +kernel) (by decide +kernel) (fun _ _ _ h => h) (Or.inr ⟨by rfl, rfl⟩) ?_; try simp only [Act.put, List.setIfInBounds_toArray, List.set_cons_zero, List.set_cons_succ]) | skip); (first | (refine takeT 7 (v := ?_) rfl (by decide +kernel) (by decide +kernel) (by decide +kernel) (fun _ _ _ h => h) (by decide +kernel) (Or.inl ⟨by rfl, ?_⟩) ?_; rotate_left 1; (focus (intro W hW; have hcW := hW.at; (try dsimp only at hcW); go_simp; first | done | with_reducible rfl)); try simp only [Act.put, List.setIfInBounds_toArray, List.set_cons_zero, List.set_cons_succ]) | (refine takeW 7 (v := ?_) rfl (by decide +kernel) (by decide +kernel) (by decide +kernel) (fun _ _ _ h => h) (Or.inl ⟨by rfl, ?_⟩) ?_; rotate_left 1; (focus (intro W hW; go_simp; first | done | with_reducible rfl)); try simp only [Act.put, List.setIfInBounds_toArray, List.set_cons_zero, List.set_cons_succ]) | (refine takeW 7 rfl (by decide +kernel) (by decide +kernel) (by decide +kernel) (fun _ _ _ h => h) (Or.inr ⟨by rfl, rfl⟩) ?_; try simp only [Act.put, List.setIfInBounds_toArray, List.set_cons_zero, List.set_cons_succ]) | skip))
            have n89 := block_ne h8.out h9.out (by decide)
            have d0 := block_at h8.out (i := 0) (v := .bool false) rfl
            have d1 := block_at h8.out (i := 1) (v := .slice none 0 0) rfl
            have f0 := block_free h8.out 0
            have f1 := block_free h8.out 1
            refine stepT 10 rfl (by decide +kernel) (by rfl) ?_
            intro K hK
            go_simp
            have bb : Below W0.heap.size v42 ((v42.setCell ⟨g8, 0, none⟩ (.bool false)).setCell ⟨g8, 1, none⟩ (.slice (some ⟨ga, 0, none⟩) 1 1)) := below2 (Below.refl _ _) lh8 (.bool false) (.slice (some ⟨ga, 0, none⟩) 1 1)
            have hg8 := grown_trans (grown_setCell v42 ⟨g8, 0, none⟩ (.bool false)) (grown_setCell (v42.setCell ⟨g8, 0, none⟩ (.bool false)) ⟨g8, 1, none⟩ (.slice (some ⟨ga, 0, none⟩) 1 1))
            refine hK _ _ (.inr (smBelow bb)) ?_
            replace h9 := Lib.hid (block_grown h9.out hg8 (fun e => n89 (Option.some.inj e).symm))
            replace na := Lib.hid (na.out.stores2 h8.out (by decide) (by decide) (.bool false) (.slice (some ⟨ga, 0, none⟩) 1 1))
            replace nb := Lib.hid (nb.out.stores2 h8.out (by decide) (by decide) (.bool false) (.slice (some ⟨ga, 0, none⟩) 1 1))
            replace h8 : Hid (((v42.setCell ⟨g8, 0, none⟩ (.bool false)).setCell ⟨g8, 1, none⟩ (.slice (some ⟨ga, 0, none⟩) 1 1)).heap[g8]? = _) := set2 h8.out (.bool false) (.slice (some ⟨ga, 0, none⟩) 1 1)
            replace hW := hW.trans bb
            clear hK K bb hg8 d0 d1 f0 f1
            try simp only [List.setIfInBounds_toArray, List.set_cons_zero, List.set_cons_succ]
            generalize ((v42.setCell ⟨g8, 0, none⟩ (.bool false)).setCell ⟨g8, 1, none⟩ (.slice (some ⟨ga, 0, none⟩) 1 1)) = wx at h8 h9 na nb hW ⊢
            have d0 := block_at h9.out (i := 0) (v := .bool false) rfl
            have d1 := block_at h9.out (i := 1) (v := .slice none 0 0) rfl
            have f0 := block_free h9.out 0
            have f1 := block_free h9.out 1
            refine stepT 11 rfl (by decide +kernel) (by rfl) ?_
            intro K hK
            go_simp
            have bb : Below W0.heap.size wx ((wx.setCell ⟨g9, 0, none⟩ (.bool false)).setCell ⟨g9, 1, none⟩ (.slice (some ⟨gb, 0, none⟩) 2 2)) := below2 (Below.refl _ _) lh9 (.bool false) (.slice (some ⟨gb, 0, none⟩) 2 2)
            have hg9 := grown_trans (grown_setCell wx ⟨g9, 0, none⟩ (.bool false)) (grown_setCell (wx.setCell ⟨g9, 0, none⟩ (.bool false)) ⟨g9, 1, none⟩ (.slice (some ⟨gb, 0, none⟩) 2 2))
            refine hK _ _ (.inr (smBelow bb)) ?_
            replace h8 := Lib.hid (block_grown h8.out hg9 (fun e => n89 (Option.some.inj e)))
            replace na := Lib.hid (na.out.stores2 h9.out (by decide) (by decide) (.bool false) (.slice (some ⟨gb, 0, none⟩) 2 2))
            replace nb := Lib.hid (nb.out.stores2 h9.out (by decide) (by decide) (.bool false) (.slice (some ⟨gb, 0, none⟩) 2 2))
            replace h9 : Hid (((wx.setCell ⟨g9, 0, none⟩ (.bool false)).setCell ⟨g9, 1, none⟩ (.slice (some ⟨gb, 0, none⟩) 2 2)).heap[g9]? = _) := set2 h9.out (.bool false) (.slice (some ⟨gb, 0, none⟩) 2 2)
            replace hW := hW.trans bb
            clear hK K bb hg9 d0 d1 f0 f1
            refine doneT (by kernel_rfl) ?_
            exact ⟨g8, g9, ga, gb, _, _, _, _, _, _, _, _, rfl, hW, h8.out, h9.out, na.out, nb.out, lh8, lh9⟩
        · clear hi
          refine ⟨_, rfl, by rfl, ?_⟩
          intro K hK
          go_simp
          have bb := (Below.refl v37.heap.size v37).alloc (Nat.le_refl _) (.cells #[.bool false, .slice none 0 0] 39)
          refine hK _ _ (.inr (smB hW.size bb)) ?_
          have h9 := Lib.hid (heap_alloc_new v37 (.cells #[.bool false, .slice none 0 0] 39))
          have lh9 := hW.size
          replace h8 := Lib.hid ((bb.block _ (block_lt h8.out)).trans h8.out)
          replace h2 := Lib.hid (h2.out.belowTop bb)
          replace hW := hW.trans (bb.mono hW.size)
          clear hK K bb
          try simp only [List.setIfInBounds_toArray, List.set_cons_zero, List.set_cons_succ]
          generalize v37.alloc (.cells #[.bool false, .slice none 0 0] 39) = v43 at hW h8 h2 h9 ⊢
          generalize v37.heap.size = g9 at h9 lh9 ⊢
          refine stepTA [3] (by decide +kernel) (by decide) ?_
          intro i hi
          obtain rfl : i = 3 := by simpa using hi
          clear hi
          refine ⟨_, rfl, by rfl, ?_⟩
          intro K hK
          go_simp
          refine (KX.out v43 _ 4 h2.out).mono ?_
          rintro e v44 ⟨A3, c3, rfl, h3, bb⟩
          replace h3 := Lib.hid h3
          refine hK _ _ (.inr (smB hW.size bb)) ?_
          replace h8 := Lib.hid ((bb.block _ (block_lt h8.out)).trans h8.out)
          replace h2 := Lib.hid (h2.out.belowTop bb)
          replace h9 := Lib.hid ((bb.block _ (block_lt h9.out)).trans h9.out)
          replace hW := hW.trans (bb.mono hW.size)
          clear hK K bb
          try simp only [List.setIfInBounds_toArray, List.set_cons_zero, List.set_cons_succ]
          refine stepTA [4] (by decide +kernel) (by decide) ?_
          intro i hi
          obtain rfl : i = 4 := by simpa using hi
          clear hi
          refine ⟨_, rfl, by rfl, ?_⟩
          intro K hK
          go_simp
          refine (KR.out v44 _ _ _ _ (R0.out.below hW |>.more hW.size) h3.out).mono ?_
          rintro e v45 ⟨ga, gb, rfl, na, nb, bb⟩
          replace na := Lib.hid (na.mono (base' := W0.heap.size) hW.size)
          replace nb := Lib.hid (nb.mono (base' := W0.heap.size) hW.size)
          refine hK _ _ (.inr (smB hW.size bb)) ?_
          replace h8 := Lib.hid ((bb.block _ (block_lt h8.out)).trans h8.out)
          replace h2 := Lib.hid (h2.out.belowTop bb)
          replace h9 := Lib.hid ((bb.block _ (block_lt h9.out)).trans h9.out)
          replace h3 := Lib.hid ((h3.out.below bb).more bb.size)
          replace hW := hW.trans (bb.mono hW.size)
          clear hK K bb
          try simp only [List.setIfInBounds_toArray, List.set_cons_zero, List.set_cons_succ]
          ((first | (refine takeT 5 (v := ?_) rfl (by decide +kernel) (by decide +kernel) (by decide +kernel) (fun _ _ _ h => h) (by decide +kernel) (Or.inl ⟨by rfl, ?_⟩) ?_; rotate_left 1; (focus (intro W hW; have hcW := hW.at; (try dsimp only at hcW); go_simp; first | done | with_reducible rfl)); try simp only [Act.put, List.setIfInBounds_toArray, List.set_cons_zero, List.set_cons_succ]) | (refine takeW 5 (v := ?_) rfl (by decide +kernel) (by decide +kernel) (by decide +kernel) (fun _ _ _ h => h) (Or.inl ⟨by rfl, ?_⟩) ?_; rotate_left 1; (focus (intro W hW; go_simp; first | done | with_reducible rfl)); try simp only [Act.put, List.setIfInBounds_toArray, List.set_cons_zero, List.set_cons_succ]) | (refine takeW 5 rfl (by decide +kernel) (by decide +kernel) (by decide +kernel) (fun _ _ _ h => h) (Or.inr ⟨by rfl, rfl⟩) ?_; try simp only [Act.put, List.setIfInBounds_toArray, List.set_cons_zero, List.set_cons_succ]) | skip); (first | (refine takeT 6 (v := ?_) rfl (by decide +kernel) (by decide +kernel) (by decide +kernel) (fun _ _ _ h => h) (by decide +kernel) (Or.inl ⟨by rfl, ?_⟩) ?_; rotate_left 1; (focus (intro W hW; have hcW := hW.at; (try dsimp only at hcW); go_simp; first | done | with_reducible rfl)); try simp only [Act.put, List.setIfInBounds_toArray, List.set_cons_zero, List.set_cons_succ]) | (refine takeW 6 (v := ?_) rfl (by decide +kernel) (by decide +kernel) (by decide +kernel) (fun _ _ _ h => h) (Or.inl ⟨by rfl, ?_⟩) ?_; rotate_left 1; (focus (intro W hW; go_simp; first | done | with_reducible rfl)); try simp only [Act.put, List.setIfInBounds_toArray, List.set_cons_zero, List.set_cons_succ]) | (refine takeW 6 rfl (by decide +kernel) (by decide +kernel) (by decide +kernel) (fun _ _ _ h => h) (Or.inr ⟨by rfl, rfl⟩) ?_; try simp only [Act.put, List.setIfInBounds_toArray, List.set_cons_zero, List.set_cons_succ]) | skip); (first | (refine takeT 7 (v := ?_) rfl (by decide +kernel) (by decide +kernel) (by decide +kernel) (fun _ _ _ h => h) (by decide +kernel) (Or.inl ⟨by rfl, ?_⟩) ?_; rotate_left 1; (focus (intro W hW; have hcW := hW.at; (try dsimp only at hcW); go_simp; first | done | with_reducible rfl)); try simp only [Act.put, List.setIfInBounds_toArray, List.set_cons_zero, List.set_cons_succ]) | (refine takeW 7 (v := ?_) rfl (by decide +kernel) (by decide +kernel) (by decide +kernel) (fun _ _ _ h => h) (Or.inl ⟨by rfl, ?_⟩) ?_; rotate_left 1; (focus (intro W hW; go_simp; first | done | with_reducible rfl)); try simp only [Act.put, List.setIfInBounds_toArray, List.set_cons_zero, List.set_cons_succ]) | (refine takeW 7 rfl (by decide +kernel) (by decide +kernel) (by decide +kernel) (fun _ _ _ h => h) (Or.inr ⟨by rfl, rfl⟩) ?_; try simp only [Act.put, List.setIfInBounds_toArray, List.set_cons_zero, List.set_cons_succ]) | skip))
          have n89 := block_ne h8.out h9.out (by decide)
          have d0 := block_at h8.out (i := 0) (v := .bool false) rfl
          have d1 := block_at h8.out (i := 1) (v := .slice none 0 0) rfl
          have f0 := block_free h8.out 0
          have f1 := block_free h8.out 1
          refine stepT 10 rfl (by decide +kernel) (by rfl) ?_
          intro K hK
          go_simp
          have bb : Below W0.heap.size v45 ((v45.setCell ⟨g8, 0, none⟩ (.bool false)).setCell ⟨g8, 1, none⟩ (.slice (some ⟨ga, 0, none⟩) 1 1)) := below2 (Below.refl _ _) lh8 (.bool false) (.slice (some ⟨ga, 0, none⟩) 1 1)
          have hg8 := grown_trans (grown_setCell v45 ⟨g8, 0, none⟩ (.bool false)) (grown_setCell (v45.setCell ⟨g8, 0, none⟩ (.bool false)) ⟨g8, 1, none⟩ (.slice (some ⟨ga, 0, none⟩) 1 1))
          refine hK _ _ (.inr (smBelow bb)) ?_
          replace h9 := Lib.hid (block_grown h9.out hg8 (fun e => n89 (Option.some.inj e).symm))
          replace na := Lib.hid (na.out.stores2 h8.out (by decide) (by decide) (.bool false) (.slice (some ⟨ga, 0, none⟩) 1 1))
          replace nb := Lib.hid (nb.out.stores2 h8.out (by decide) (by decide) (.bool false) (.slice (some ⟨ga, 0, none⟩) 1 1))
          replace h8 : Hid (((v45.setCell ⟨g8, 0, none⟩ (.bool false)).setCell ⟨g8, 1, none⟩ (.slice (some ⟨ga, 0, none⟩) 1 1)).heap[g8]? = _) := set2 h8.out (.bool false) (.slice (some ⟨ga, 0, none⟩) 1 1)
          replace hW := hW.trans bb
          clear hK K bb hg8 d0 d1 f0 f1
          try simp only [List.setIfInBounds_toArray, List.set_cons_zero, List.set_cons_succ]
          generalize ((v45.setCell ⟨g8, 0, none⟩ (.bool false)).setCell ⟨g8, 1, none⟩ (.slice (some ⟨ga, 0, none⟩) 1 1)) = wx at h8 h9 na nb hW ⊢
          have d0 := block_at h9.out (i := 0) (v := .bool false) rfl
          have d1 := block_at h9.out (i := 1) (v := .slice none 0 0) rfl
          have f0 := block_free h9.out 0
          have f1 := block_free h9.out 1
          refine stepT 11 rfl (by decide +kernel) (by rfl) ?_
          intro K hK
          go_simp
          have bb : Below W0.heap.size wx ((wx.setCell ⟨g9, 0, none⟩ (.bool false)).setCell ⟨g9, 1, none⟩ (.slice (some ⟨gb, 0, none⟩) 2 2)) := below2 (Below.refl _ _) lh9 (.bool false) (.slice (some ⟨gb, 0, none⟩) 2 2)
          have hg9 := grown_trans (grown_setCell wx ⟨g9, 0, none⟩ (.bool false)) (grown_setCell (wx.setCell ⟨g9, 0, none⟩ (.bool false)) ⟨g9, 1, none⟩ (.slice (some ⟨gb, 0, none⟩) 2 2))
          refine hK _ _ (.inr (smBelow bb)) ?_
          replace h8 := Lib.hid (block_grown h8.out hg9 (fun e => n89 (Option.some.inj e)))
          replace na := Lib.hid (na.out.stores2 h9.out (by decide) (by decide) (.bool false) (.slice (some ⟨gb, 0, none⟩) 2 2))
          replace nb := Lib.hid (nb.out.stores2 h9.out (by decide) (by decide) (.bool false) (.slice (some ⟨gb, 0, none⟩) 2 2))
          replace h9 : Hid (((wx.setCell ⟨g9, 0, none⟩ (.bool false)).setCell ⟨g9, 1, none⟩ (.slice (some ⟨gb, 0, none⟩) 2 2)).heap[g9]? = _) := set2 h9.out (.bool false) (.slice (some ⟨gb, 0, none⟩) 2 2)
          replace hW := hW.trans bb
          clear hK K bb hg9 d0 d1 f0 f1
          refine doneT (by kernel_rfl) ?_
          exact ⟨g8, g9, ga, gb, _, _, _, _, _, _, _, _, rfl, hW, h8.out, h9.out, na.out, nb.out, lh8, lh9⟩
      · clear hi
        refine ⟨_, rfl, by rfl, ?_⟩
        intro K hK
        go_simp
        have bb := (Below.refl v36.heap.size v36).alloc (Nat.le_refl _) (.cells #[.bool false, .slice none 0 0] 39)
        refine hK _ _ (.inr (smB hW.size bb)) ?_
        have h9 := Lib.hid (heap_alloc_new v36 (.cells #[.bool false, .slice none 0 0] 39))
        have lh9 := hW.size
        replace h8 := Lib.hid ((bb.block _ (block_lt h8.out)).trans h8.out)
        replace hW := hW.trans (bb.mono hW.size)
        clear hK K bb
        try simp only [List.setIfInBounds_toArray, List.set_cons_zero, List.set_cons_succ]
        generalize v36.alloc (.cells #[.bool false, .slice none 0 0] 39) = v46 at hW h8 h9 ⊢
        generalize v36.heap.size = g9 at h9 lh9 ⊢
        refine stepTA [2] (by decide +kernel) (by decide) ?_
        intro i hi
        obtain rfl : i = 2 := by simpa using hi
        clear hi
        refine ⟨_, rfl, by rfl, ?_⟩
        intro K hK
        go_simp
        have bb := (Below.refl v46.heap.size v46).alloc (Nat.le_refl _) (.cells #[.int .u8 0, .int .u8 2, .int .u8 1, .int .u8 0] 5)
        have h2 := Lib.hid (show Rd (v46.alloc (.cells #[.int .u8 0, .int .u8 2, .int .u8 1, .int .u8 0] 5)) (v46.alloc (.cells #[.int .u8 0, .int .u8 2, .int .u8 1, .int .u8 0] 5)).heap.size (some ⟨v46.heap.size, 0, none⟩) 4 [0, 2, 1, 0] from rd_top v46 5 [0, 2, 1, 0] (by simp))
        refine hK _ _ (.inr (smB hW.size bb)) ?_
        replace h8 := Lib.hid ((bb.block _ (block_lt h8.out)).trans h8.out)
        replace h9 := Lib.hid ((bb.block _ (block_lt h9.out)).trans h9.out)
        replace hW := hW.trans (bb.mono hW.size)
        clear hK K bb
        try simp only [List.setIfInBounds_toArray, List.set_cons_zero, List.set_cons_succ]
        generalize v46.alloc (.cells #[.int .u8 0, .int .u8 2, .int .u8 1, .int .u8 0] 5) = v47 at hW h8 h9 h2 ⊢
        generalize v46.heap.size = q2 at h2 ⊢
        refine stepTA [3] (by decide +kernel) (by decide) ?_
        intro i hi
        obtain rfl : i = 3 := by simpa using hi
        clear hi
        refine ⟨_, rfl, by rfl, ?_⟩
        intro K hK
        go_simp
        refine (KX.out v47 _ 4 h2.out).mono ?_
        rintro e v48 ⟨A3, c3, rfl, h3, bb⟩
        replace h3 := Lib.hid h3
        refine hK _ _ (.inr (smB hW.size bb)) ?_
        replace h8 := Lib.hid ((bb.block _ (block_lt h8.out)).trans h8.out)
        replace h9 := Lib.hid ((bb.block _ (block_lt h9.out)).trans h9.out)
        replace h2 := Lib.hid (h2.out.belowTop bb)
        replace hW := hW.trans (bb.mono hW.size)
        clear hK K bb
        try simp only [List.setIfInBounds_toArray, List.set_cons_zero, List.set_cons_succ]
        refine stepTA [4] (by decide +kernel) (by decide) ?_
        intro i hi
        obtain rfl : i = 4 := by simpa using hi
        clear hi
        refine ⟨_, rfl, by rfl, ?_⟩
        intro K hK
        go_simp
        refine (KR.out v48 _ _ _ _ (R0.out.below hW |>.more hW.size) h3.out).mono ?_
        rintro e v49 ⟨ga, gb, rfl, na, nb, bb⟩
        replace na := Lib.hid (na.mono (base' := W0.heap.size) hW.size)
        replace nb := Lib.hid (nb.mono (base' := W0.heap.size) hW.size)
        refine hK _ _ (.inr (smB hW.size bb)) ?_
        replace h8 := Lib.hid ((bb.block _ (block_lt h8.out)).trans h8.out)
        replace h9 := Lib.hid ((bb.block _ (block_lt h9.out)).trans h9.out)
        replace h2 := Lib.hid (h2.out.belowTop bb)
        replace h3 := Lib.hid ((h3.out.below bb).more bb.size)
        replace hW := hW.trans (bb.mono hW.size)
        clear hK K bb
        try simp only [List.setIfInBounds_toArray, List.set_cons_zero, List.set_cons_succ]
        ((first | (refine takeT 5 (v := ?_) rfl (by decide +kernel) (by decide +kernel) (by decide +kernel) (fun _ _ _ h => h) (by decide +kernel) (Or.inl ⟨by rfl, ?_⟩) ?_; rotate_left 1; (focus (intro W hW; have hcW := hW.at; (try dsimp only at hcW); go_simp; first | done | with_reducible rfl)); try simp only [Act.put, List.setIfInBounds_toArray, List.set_cons_zero, List.set_cons_succ]) | (refine takeW 5 (v := ?_) rfl (by decide +kernel) (by decide +kernel) (by decide +kernel) (fun _ _ _ h => h) (Or.inl ⟨by rfl, ?_⟩) ?_; rotate_left 1; (focus (intro W hW; go_simp; first | done | with_reducible rfl)); try simp only [Act.put, List.setIfInBounds_toArray, List.set_cons_zero, List.set_cons_succ]) | (refine takeW 5 rfl (by decide +kernel) (by decide +kernel) (by decide +kernel) (fun _ _ _ h => h) (Or.inr ⟨by rfl, rfl⟩) ?_; try simp only [Act.put, List.setIfInBounds_toArray, List.set_cons_zero, List.set_cons_succ]) | skip); (first | (refine takeT 6 (v := ?_) rfl (by decide +kernel) (by decide +kernel) (by decide +kernel) (fun _ _ _ h => h) (by decide +kernel) (Or.inl ⟨by rfl, ?_⟩) ?_; rotate_left 1; (focus (intro W hW; have hcW := hW.at; (try dsimp only at hcW); go_simp; first | done | with_reducible rfl)); try simp only [Act.put, List.setIfInBounds_toArray, List.set_cons_zero, List.set_cons_succ]) | (refine takeW 6 (v := ?_) rfl (by decide +kernel) (by decide +kernel) (by decide +kernel) (fun _ _ _ h => h) (Or.inl ⟨by rfl, ?_⟩) ?_; rotate_left 1; (focus (intro W hW; go_simp; first | done | with_reducible rfl)); try simp only [Act.put, List.setIfInBounds_toArray, List.set_cons_zero, List.set_cons_succ]) | (refine takeW 6 rfl (by decide +kernel) (by decide +kernel) (by decide +kernel) (fun _ _ _ h => h) (Or.inr ⟨by rfl, rfl⟩) ?_; try simp only [Act.put, List.setIfInBounds_toArray, List.set_cons_zero, List.set_cons_succ]) | skip); (first | (refine takeT 7 (v := ?_) rfl (by decide +kernel) (by decide +kernel) (by decide +kernel) (fun _ _ _ h => h) (by decide +kernel) (Or.inl ⟨by rfl, ?_⟩) ?_; rotate_left 1; (focus (intro W hW; have hcW := hW.at; (try dsimp only at hcW); go_simp; first | done | with_reducible rfl)); try simp only [Act.put, List.setIfInBounds_toArray, List.set_cons_zero, List.set_cons_succ]) | (refine takeW 7 (v := ?_) rfl (by decide +kernel) (by decide +kernel) (by decide +kernel) (fun _ _ _ h => h) (Or.inl ⟨by rfl, ?_⟩) ?_; rotate_left 1; (focus (intro W hW; go_simp; first | done | with_reducible rfl)); try simp only [Act.put, List.setIfInBounds_toArray, List.set_cons_zero, List.set_cons_succ]) | (refine takeW 7 rfl (by decide +kernel) (by decide +kernel) (by decide +kernel) (fun _ _ _ h => h) (Or.inr ⟨by rfl, rfl⟩) ?_; try simp only [Act.put, List.setIfInBounds_toArray, List.set_cons_zero, List.set_cons_succ]) | skip))
        have n89 := block_ne h8.out h9.out (by decide)
        have d0 := block_at h8.out (i := 0) (v := .bool false) rfl
        have d1 := block_at h8.out (i := 1) (v := .slice none 0 0) rfl
        have f0 := block_free h8.out 0
        have f1 := block_free h8.out 1
        refine stepT 10 rfl (by decide +kernel) (by rfl) ?_
        intro K hK
        go_simp
        have bb : Below W0.heap.size v49 ((v49.setCell ⟨g8, 0, none⟩ (.bool false)).setCell ⟨g8, 1, none⟩ (.slice (some ⟨ga, 0, none⟩) 1 1)) := below2 (Below.refl _ _) lh8 (.bool false) (.slice (some ⟨ga, 0, none⟩) 1 1)
        have hg8 := grown_trans (grown_setCell v49 ⟨g8, 0, none⟩ (.bool false)) (grown_setCell (v49.setCell ⟨g8, 0, none⟩ (.bool false)) ⟨g8, 1, none⟩ (.slice (some ⟨ga, 0, none⟩) 1 1))
        refine hK _ _ (.inr (smBelow bb)) ?_
        replace h9 := Lib.hid (block_grown h9.out hg8 (fun e => n89 (Option.some.inj e).symm))
        replace na := Lib.hid (na.out.stores2 h8.out (by decide) (by decide) (.bool false) (.slice (some ⟨ga, 0, none⟩) 1 1))
        replace nb := Lib.hid (nb.out.stores2 h8.out (by decide) (by decide) (.bool false) (.slice (some ⟨ga, 0, none⟩) 1 1))
        replace h8 : Hid (((v49.setCell ⟨g8, 0, none⟩ (.bool false)).setCell ⟨g8, 1, none⟩ (.slice (some ⟨ga, 0, none⟩) 1 1)).heap[g8]? = _) := set2 h8.out (.bool false) (.slice (some ⟨ga, 0, none⟩) 1 1)
        replace hW := hW.trans bb
        clear hK K bb hg8 d0 d1 f0 f1
        try simp only [List.setIfInBounds_toArray, List.set_cons_zero, List.set_cons_succ]
        generalize ((v49.setCell ⟨g8, 0, none⟩ (.bool false)).setCell ⟨g8, 1, none⟩ (.slice (some ⟨ga, 0, none⟩) 1 1)) = wx at h8 h9 na nb hW ⊢
        have d0 := block_at h9.out (i := 0) (v := .bool false) rfl
        have d1 := block_at h9.out (i := 1) (v := .slice none 0 0) rfl
        have f0 := block_free h9.out 0
        have f1 := block_free h9.out 1
        refine stepT 11 rfl (by decide +kernel) (by rfl) ?_
        intro K hK
        go_simp
        have bb : Below W0.heap.size wx ((wx.setCell ⟨g9, 0, none⟩ (.bool false)).setCell ⟨g9, 1, none⟩ (.slice (some ⟨gb, 0, none⟩) 2 2)) := below2 (Below.refl _ _) lh9 (.bool false) (.slice (some ⟨gb, 0, none⟩) 2 2)
        have hg9 := grown_trans (grown_setCell wx ⟨g9, 0, none⟩ (.bool false)) (grown_setCell (wx.setCell ⟨g9, 0, none⟩ (.bool false)) ⟨g9, 1, none⟩ (.slice (some ⟨gb, 0, none⟩) 2 2))
        refine hK _ _ (.inr (smBelow bb)) ?_
        replace h8 := Lib.hid (block_grown h8.out hg9 (fun e => n89 (Option.some.inj e)))
        replace na := Lib.hid (na.out.stores2 h9.out (by decide) (by decide) (.bool false) (.slice (some ⟨gb, 0, none⟩) 2 2))
        replace nb := Lib.hid (nb.out.stores2 h9.out (by decide) (by decide) (.bool false) (.slice (some ⟨gb, 0, none⟩) 2 2))
        replace h9 : Hid (((wx.setCell ⟨g9, 0, none⟩ (.bool false)).setCell ⟨g9, 1, none⟩ (.slice (some ⟨gb, 0, none⟩) 2 2)).heap[g9]? = _) := set2 h9.out (.bool false) (.slice (some ⟨gb, 0, none⟩) 2 2)
        replace hW := hW.trans bb
        clear hK K bb hg9 d0 d1 f0 f1
        refine doneT (by kernel_rfl) ?_
        exact ⟨g8, g9, ga, gb, _, _, _, _, _, _, _, _, rfl, hW, h8.out, h9.out, na.out, nb.out, lh8, lh9⟩
    · clear hi
      refine ⟨_, rfl, by rfl, ?_⟩
      intro K hK
      go_simp
      have bb := (Below.refl v0.heap.size v0).alloc (Nat.le_refl _) (.cells #[.bool false, .slice none 0 0] 39)
      refine hK _ _ (.inr (smB hW.size bb)) ?_
      have h9 := Lib.hid (heap_alloc_new v0 (.cells #[.bool false, .slice none 0 0] 39))
      have lh9 := hW.size
      replace hW := hW.trans (bb.mono hW.size)
      clear hK K bb
      try simp only [List.setIfInBounds_toArray, List.set_cons_zero, List.set_cons_succ]
      generalize v0.alloc (.cells #[.bool false, .slice none 0 0] 39) = v50 at hW h9 ⊢
      generalize v0.heap.size = g9 at h9 lh9 ⊢
      refine stepTA [2, 8] (by decide +kernel) (by decide) ?_
      intro i hi
      rcases (by simpa using hi : i = 2 ∨ i = 8) with rfl | rfl
      · clear hi
        refine ⟨_, rfl, by rfl, ?_⟩
        intro K hK
        go_simp
        have bb := (Below.refl v50.heap.size v50).alloc (Nat.le_refl _) (.cells #[.int .u8 0, .int .u8 2, .int .u8 1, .int .u8 0] 5)
        have h2 := Lib.hid (show Rd (v50.alloc (.cells #[.int .u8 0, .int .u8 2, .int .u8 1, .int .u8 0] 5)) (v50.alloc (.cells #[.int .u8 0, .int .u8 2, .int .u8 1, .int .u8 0] 5)).heap.size (some ⟨v50.heap.size, 0, none⟩) 4 [0, 2, 1, 0] from rd_top v50 5 [0, 2, 1, 0] (by simp))
        refine hK _ _ (.inr (smB hW.size bb)) ?_
        replace h9 := Lib.hid ((bb.block _ (block_lt h9.out)).trans h9.out)
        replace hW := hW.trans (bb.mono hW.size)
        clear hK K bb
        try simp only [List.setIfInBounds_toArray, List.set_cons_zero, List.set_cons_succ]
        generalize v50.alloc (.cells #[.int .u8 0, .int .u8 2, .int .u8 1, .int .u8 0] 5) = v51 at hW h9 h2 ⊢
        generalize v50.heap.size = q2 at h2 ⊢
        refine stepTA [3, 8] (by decide +kernel) (by decide) ?_
        intro i hi
        rcases (by simpa using hi : i = 3 ∨ i = 8) with rfl | rfl
        · clear hi
          refine ⟨_, rfl, by rfl, ?_⟩
          intro K hK
          go_simp
          refine (KX.out v51 _ 4 h2.out).mono ?_
          rintro e v52 ⟨A3, c3, rfl, h3, bb⟩
          replace h3 := Lib.hid h3
          refine hK _ _ (.inr (smB hW.size bb)) ?_
          replace h9 := Lib.hid ((bb.block _ (block_lt h9.out)).trans h9.out)
          replace h2 := Lib.hid (h2.out.belowTop bb)
          replace hW := hW.trans (bb.mono hW.size)
          clear hK K bb
          try simp only [List.setIfInBounds_toArray, List.set_cons_zero, List.set_cons_succ]
          refine stepTA [4, 8] (by decide +kernel) (by decide) ?_
          intro i hi
          rcases (by simpa using hi : i = 4 ∨ i = 8) with rfl | rfl
          · clear hi
            refine ⟨_, rfl, by rfl, ?_⟩
            intro K hK
            go_simp
            refine (KR.out v52 _ _ _ _ (R0.out.below hW |>.more hW.size) h3.out).mono ?_
            rintro e v53 ⟨ga, gb, rfl, na, nb, bb⟩
            replace na := Lib.hid (na.mono (base' := W0.heap.size) hW.size)
            replace nb := Lib.hid (nb.mono (base' := W0.heap.size) hW.size)
            refine hK _ _ (.inr (smB hW.size bb)) ?_
            replace h9 := Lib.hid ((bb.block _ (block_lt h9.out)).trans h9.out)
            replace h2 := Lib.hid (h2.out.belowTop bb)
            replace h3 := Lib.hid ((h3.out.below bb).more bb.size)
            replace hW := hW.trans (bb.mono hW.size)
            clear hK K bb
            try simp only [List.setIfInBounds_toArray, List.set_cons_zero, List.set_cons_succ]
            ((first | (refine takeT 5 (v := ?_) rfl (by decide +kernel) (by decide +kernel) (by decide +kernel) (fun _ _ _ h => h) (by decide +kernel) (Or.inl ⟨by rfl, ?_⟩) ?_; rotate_left 1; (focus (intro W hW; have hcW := hW.at; (try dsimp only at hcW); go_simp; first | done | with_reducible rfl)); try simp only [Act.put, List.setIfInBounds_toArray, List.set_cons_zero, List.set_cons_succ]) | (refine takeW 5 (v := ?_) rfl (by decide +kernel) (by decide +kernel) (by decide +kernel) (fun _ _ _ h => h) (Or.inl ⟨by rfl, ?_⟩) ?_; rotate_left 1; (focus (intro W hW; go_simp; first | done | with_reducible rfl)); try simp only [Act.put, List.setIfInBounds_toArray, List.set_cons_zero, List.set_cons_succ]) | (refine takeW 5 rfl (by decide +kernel) (by decide +kernel) (by decide +kernel) (fun _ _ _ h => h) (Or.inr ⟨by rfl, rfl⟩) ?_; try simp only [Act.put, List.setIfInBounds_toArray, List.set_cons_zero, List.set_cons_succ]) | skip); (first | (refine takeT 6 (v := ?_) rfl (by decide +kernel) (by decide +kernel) (by decide +kernel) (fun _ _ _ h => h) (by decide +kernel) (Or.inl ⟨by rfl, ?_⟩) ?_; rotate_left 1; (focus (intro W hW; have hcW := hW.at; (try dsimp only at hcW); go_simp; first | done | with_reducible rfl)); try simp only [Act.put, List.setIfInBounds_toArray, List.set_cons_zero, List.set_cons_succ]) | (refine takeW 6 (v := ?_) rfl (by decide +kernel) (by decide +kernel) (by decide +kernel) (fun _ _ _ h => h) (Or.inl ⟨by rfl, ?_⟩) ?_; rotate_left 1; (focus (intro W hW; go_simp; first | done | with_reducible rfl)); try simp only [Act.put, List.setIfInBounds_toArray, List.set_cons_zero, List.set_cons_succ]) | (refine takeW 6 rfl (by decide +kernel) (by decide +kernel) (by decide +kernel) (fun _ _ _ h => h) (Or.inr ⟨by rfl, rfl⟩) ?_; try simp only [Act.put, List.setIfInBounds_toArray, List.set_cons_zero, List.set_cons_succ]) | skip); (first | (refine takeT 7 (v := ?_) rfl (by decide +kernel) (by decide +kernel) (by decide +kernel) (fun _ _ _ h => h) (by decide +kernel) (Or.inl ⟨by rfl, ?_⟩) ?_; rotate_left 1; (focus (intro W hW; have hcW := hW.at; (try dsimp only at hcW); go_simp; first | done | with_reducible rfl)); try simp only [Act.put, List.setIfInBounds_toArray, List.set_cons_zero, List.set_cons_succ]) | (refine takeW 7 (v := ?_) rfl (by decide +kernel) (by decide +kernel) (by decide +kernel) (fun _ _ _ h => h) (Or.inl ⟨by rfl, ?_⟩) ?_; rotate_left 1; (focus (intro W hW; go_simp; first | done | with_reducible rfl)); try simp only [Act.put, List.setIfInBounds_toArray, List.set_cons_zero, List.set_cons_succ]) | (refine takeW 7 rfl (by decide +kernel) (by decide +kernel) (by decide +kernel) (fun _ _ _ h => h) (Or.inr ⟨by rfl, rfl⟩) ?_; try simp only [Act.put, List.setIfInBounds_toArray, List.set_cons_zero, List.set_cons_succ]) | skip))
            refine stepTA [8] (by decide +kernel) (by decide) ?_
            intro i hi
            obtain rfl : i = 8 := by simpa using hi
            clear hi
            refine ⟨_, rfl, by rfl, ?_⟩
            intro K hK
            go_simp
            have bb := (Below.refl v53.heap.size v53).alloc (Nat.le_refl _) (.cells #[.bool false, .slice none 0 0] 28)
            refine hK _ _ (.inr (smB hW.size bb)) ?_
            have h8 := Lib.hid (heap_alloc_new v53 (.cells #[.bool false, .slice none 0 0] 28))
            have lh8 := hW.size
            replace h9 := Lib.hid ((bb.block _ (block_lt h9.out)).trans h9.out)
            replace h2 := Lib.hid (h2.out.belowTop bb)
            replace h3 := Lib.hid ((h3.out.below bb).more bb.size)
            replace na := Lib.hid (na.out.below bb)
            replace nb := Lib.hid (nb.out.below bb)
            replace hW := hW.trans (bb.mono hW.size)
            clear hK K bb
            try simp only [List.setIfInBounds_toArray, List.set_cons_zero, List.set_cons_succ]
            generalize v53.alloc (.cells #[.bool false, .slice none 0 0] 28) = v54 at hW h9 h2 h3 na nb h8 ⊢
            generalize v53.heap.size = g8 at h8 lh8 ⊢
            have n89 := block_ne h8.out h9.out (by decide)
            have d0 := block_at h8.out (i := 0) (v := .bool false) rfl
            have d1 := block_at h8.out (i := 1) (v := .slice none 0 0) rfl
            have f0 := block_free h8.out 0
            have f1 := block_free h8.out 1
            refine stepT 10 rfl (by decide +kernel) (by rfl) ?_
            intro K hK
            go_simp
            have bb : Below W0.heap.size v54 ((v54.setCell ⟨g8, 0, none⟩ (.bool false)).setCell ⟨g8, 1, none⟩ (.slice (some ⟨ga, 0, none⟩) 1 1)) := below2 (Below.refl _ _) lh8 (.bool false) (.slice (some ⟨ga, 0, none⟩) 1 1)
            have hg8 := grown_trans (grown_setCell v54 ⟨g8, 0, none⟩ (.bool false)) (grown_setCell (v54.setCell ⟨g8, 0, none⟩ (.bool false)) ⟨g8, 1, none⟩ (.slice (some ⟨ga, 0, none⟩) 1 1))
            refine hK _ _ (.inr (smBelow bb)) ?_
            replace h9 := Lib.hid (block_grown h9.out hg8 (fun e => n89 (Option.some.inj e).symm))
            replace na := Lib.hid (na.out.stores2 h8.out (by decide) (by decide) (.bool false) (.slice (some ⟨ga, 0, none⟩) 1 1))
            replace nb := Lib.hid (nb.out.stores2 h8.out (by decide) (by decide) (.bool false) (.slice (some ⟨ga, 0, none⟩) 1 1))
            replace h8 : Hid (((v54.setCell ⟨g8, 0, none⟩ (.bool false)).setCell ⟨g8, 1, none⟩ (.slice (some ⟨ga, 0, none⟩) 1 1)).heap[g8]? = _) := set2 h8.out (.bool false) (.slice (some ⟨ga, 0, none⟩) 1 1)
            replace hW := hW.trans bb
            clear hK K bb hg8 d0 d1 f0 f1
            try simp only [List.setIfInBounds_toArray, List.set_cons_zero, List.set_cons_succ]
            generalize ((v54.setCell ⟨g8, 0, none⟩ (.bool false)).setCell ⟨g8, 1, none⟩ (.slice (some ⟨ga, 0, none⟩) 1 1)) = wx at h8 h9 na nb hW ⊢
            have d0 := block_at h9.out (i := 0) (v := .bool false) rfl
            have d1 := block_at h9.out (i := 1) (v := .slice none 0 0) rfl
            have f0 := block_free h9.out 0
            have f1 := block_free h9.out 1
            refine stepT 11 rfl (by decide +kernel) (by rfl) ?_
            intro K hK
            go_simp
            have bb : Below W0.heap.size wx ((wx.setCell ⟨g9, 0, none⟩ (.bool false)).setCell ⟨g9, 1, none⟩ (.slice (some ⟨gb, 0, none⟩) 2 2)) := below2 (Below.refl _ _) lh9 (.bool false) (.slice (some ⟨gb, 0, none⟩) 2 2)
            have hg9 := grown_trans (grown_setCell wx ⟨g9, 0, none⟩ (.bool false)) (grown_setCell (wx.setCell ⟨g9, 0, none⟩ (.bool false)) ⟨g9, 1, none⟩ (.slice (some ⟨gb, 0, none⟩) 2 2))
            refine hK _ _ (.inr (smBelow bb)) ?_
            replace h8 := Lib.hid (block_grown h8.out hg9 (fun e => n89 (Option.some.inj e)))
            replace na := Lib.hid (na.out.stores2 h9.out (by decide) (by decide) (.bool false) (.slice (some ⟨gb, 0, none⟩) 2 2))
            replace nb := Lib.hid (nb.out.stores2 h9.out (by decide) (by decide) (.bool false) (.slice (some ⟨gb, 0, none⟩) 2 2))
            replace h9 : Hid (((wx.setCell ⟨g9, 0, none⟩ (.bool false)).setCell ⟨g9, 1, none⟩ (.slice (some ⟨gb, 0, none⟩) 2 2)).heap[g9]? = _) := set2 h9.out (.bool false) (.slice (some ⟨gb, 0, none⟩) 2 2)
            replace hW := hW.trans bb
            clear hK K bb hg9 d0 d1 f0 f1
            refine doneT (by kernel_rfl) ?_
            exact ⟨g8, g9, ga, gb, _, _, _, _, _, _, _, _, rfl, hW, h8.out, h9.out, na.out, nb.out, lh8, lh9⟩
          · clear hi
            refine ⟨_, rfl, by rfl, ?_⟩
            intro K hK
            go_simp
            have bb := (Below.refl v52.heap.size v52).alloc (Nat.le_refl _) (.cells #[.bool false, .slice none 0 0] 28)
            refine hK _ _ (.inr (smB hW.size bb)) ?_
            have h8 := Lib.hid (heap_alloc_new v52 (.cells #[.bool false, .slice none 0 0] 28))
            have lh8 := hW.size
            replace h9 := Lib.hid ((bb.block _ (block_lt h9.out)).trans h9.out)
            replace h2 := Lib.hid (h2.out.belowTop bb)
            replace h3 := Lib.hid ((h3.out.below bb).more bb.size)
            replace hW := hW.trans (bb.mono hW.size)
            clear hK K bb
            try simp only [List.setIfInBounds_toArray, List.set_cons_zero, List.set_cons_succ]
            generalize v52.alloc (.cells #[.bool false, .slice none 0 0] 28) = v55 at hW h9 h2 h3 h8 ⊢
            generalize v52.heap.size = g8 at h8 lh8 ⊢
            refine stepTA [4] (by decide +kernel) (by decide) ?_
            intro i hi
            obtain rfl : i = 4 := by simpa using hi
            clear hi
            refine ⟨_, rfl, by rfl, ?_⟩
            intro K hK
            go_simp
            refine (KR.out v55 _ _ _ _ (R0.out.below hW |>.more hW.size) h3.out).mono ?_
            rintro e v56 ⟨ga, gb, rfl, na, nb, bb⟩
            replace na := Lib.hid (na.mono (base' := W0.heap.size) hW.size)
            replace nb := Lib.hid (nb.mono (base' := W0.heap.size) hW.size)
            refine hK _ _ (.inr (smB hW.size bb)) ?_
            replace h9 := Lib.hid ((bb.block _ (block_lt h9.out)).trans h9.out)
            replace h2 := Lib.hid (h2.out.belowTop bb)
            replace h3 := Lib.hid ((h3.out.below bb).more bb.size)
            replace h8 := Lib.hid ((bb.block _ (block_lt h8.out)).trans h8.out)
            replace hW := hW.trans (bb.mono hW.size)
            clear hK K bb
            try simp only [List.setIfInBounds_toArray, List.set_cons_zero, List.set_cons_succ]
            ((first | (refine takeT 5 (v := ?_) rfl (by decide +kernel) (by decide +kernel) (by decide +kernel) (fun _ _ _ h => h) (by decide +kernel) (Or.inl ⟨by rfl, ?_⟩) ?_; rotate_left 1; (focus (intro W hW; have hcW := hW.at; (try dsimp only at hcW); go_simp; first | done | with_reducible rfl)); try simp only [Act.put, List.setIfInBounds_toArray, List.set_cons_zero, List.set_cons_succ]) | (refine takeW 5 (v := ?_) rfl (by decide +kernel) (by decide +kernel) (by decide +kernel) (fun _ _ _ h => h) (Or.inl ⟨by rfl, ?_⟩) ?_; rotate_left 1; (focus (intro W hW; go_simp; first | done | with_reducible rfl)); try simp only [Act.put, List.setIfInBounds_toArray, List.set_cons_zero, List.set_cons_succ]) | (refine takeW 5 rfl (by decide +kernel) (by decide +kernel) (by decide +kernel) (fun _ _ _ h => h) (Or.inr ⟨by rfl, rfl⟩) ?_; try simp only [Act.put, List.setIfInBounds_toArray, List.set_cons_zero, List.set_cons_succ]) | skip); (first | (refine takeT 6 (v := ?_) rfl (by decide +kernel) (by decide +kernel) (by decide +kernel) (fun _ _ _ h => h) (by decide +kernel) (Or.inl ⟨by rfl, ?_⟩) ?_; rotate_left 1; (focus (intro W hW; have hcW := hW.at; (try dsimp only at hcW); go_simp; first | done | with_reducible rfl)); try simp only [Act.put, List.setIfInBounds_toArray, List.set_cons_zero, List.set_cons_succ]) | (refine takeW 6 (v := ?_) rfl (by decide +kernel) (by decide +kernel) (by decide +kernel) (fun _ _ _ h => h) (Or.inl ⟨by rfl, ?_⟩) ?_; rotate_left 1; (focus (intro W hW; go_simp; first | done | with_reducible rfl)); try simp only [Act.put, List.setIfInBounds_toArray, List.set_cons_zero, List.set_cons_succ]) | (refine takeW 6 rfl (by decide +kernel) (by decide +kernel) (by decide +kernel) (fun _ _ _ h => h) (Or.inr ⟨by rfl, rfl⟩) ?_; try simp only [Act.put, List.setIfInBounds_toArray, List.set_cons_zero, List.set_cons_succ]) | skip); (first | (refine takeT 7 (v := ?_) rfl (by decide +kernel) (by decide +kernel) (by decide +kernel) (fun _ _ _ h => h) (by decide +kernel) (Or.inl ⟨by rfl, ?_⟩) ?_; rotate_left 1; (focus (intro W hW; have hcW := hW.at; (try dsimp only at hcW); go_simp; first | done | with_reducible rfl)); try simp only [Act.put, List.setIfInBounds_toArray, List.set_cons_zero, List.set_cons_succ]) | (refine takeW 7 (v := ?_) rfl (by decide +kernel) (by decide +kernel) (by decide +kernel) (fun _ _ _ h => h) (Or.inl ⟨by rfl, ?_⟩) ?_; rotate_left 1; (focus (intro W hW; go_simp; first | done | with_reducible rfl)); try simp only [Act.put, List.setIfInBounds_toArray, List.set_cons_zero, List.set_cons_succ]) | (refine takeW 7 rfl (by decide +kernel) (by decide +kernel) (by decide +kernel) (fun _ _ _ h => h) (Or.inr ⟨by rfl, rfl⟩) ?_; try simp only [Act.put, List.setIfInBounds_toArray, List.set_cons_zero, List.set_cons_succ]) | skip))
            have n89 := block_ne h8.out h9.out (by decide)
            have d0 := block_at h8.out (i := 0) (v := .bool false) rfl
            have d1 := block_at h8.out (i := 1) (v := .slice none 0 0) rfl
            have f0 := block_free h8.out 0
            have f1 := block_free h8.out 1
            refine stepT 10 rfl (by decide +kernel) (by rfl) ?_
            intro K hK
            go_simp
            have bb : Below W0.heap.size v56 ((v56.setCell ⟨g8, 0, none⟩ (.bool false)).setCell ⟨g8, 1, none⟩ (.slice (some ⟨ga, 0, none⟩) 1 1)) := below2 (Below.refl _ _) lh8 (.bool false) (.slice (some ⟨ga, 0, none⟩) 1 1)
            have hg8 := grown_trans (grown_setCell v56 ⟨g8, 0, none⟩ (.bool false)) (grown_setCell (v56.setCell ⟨g8, 0, none⟩ (.bool false)) ⟨g8, 1, none⟩ (.slice (some ⟨ga, 0, none⟩) 1 1))
            refine hK _ _ (.inr (smBelow bb)) ?_
            replace h9 := Lib.hid (block_grown h9.out hg8 (fun e => n89 (Option.some.inj e).symm))
            replace na := Lib.hid (na.out.stores2 h8.out (by decide) (by decide) (.bool false) (.slice (some ⟨ga, 0, none⟩) 1 1))
            replace nb := Lib.hid (nb.out.stores2 h8.out (by decide) (by decide) (.bool false) (.slice (some ⟨ga, 0, none⟩) 1 1))
            replace h8 : Hid (((v56.setCell ⟨g8, 0, none⟩ (.bool false)).setCell ⟨g8, 1, none⟩ (.slice (some ⟨ga, 0, none⟩) 1 1)).heap[g8]? = _) := set2 h8.out (.bool false) (.slice (some ⟨ga, 0, none⟩) 1 1)
            replace hW := hW.trans bb
            clear hK K bb hg8 d0 d1 f0 f1
            try simp only [List.setIfInBounds_toArray, List.set_cons_zero, List.set_cons_succ]
            generalize ((v56.setCell ⟨g8, 0, none⟩ (.bool false)).setCell ⟨g8, 1, none⟩ (.slice (some ⟨ga, 0, none⟩) 1 1)) = wx at h8 h9 na nb hW ⊢
            have d0 := block_at h9.out (i := 0) (v := .bool false) rfl
            have d1 := block_at h9.out (i := 1) (v := .slice none 0 0) rfl
            have f0 := block_free h9.out 0
            have f1 := block_free h9.out 1
            refine stepT 11 rfl (by decide +kernel) (by rfl) ?_
            intro K hK
            go_simp
            have bb : Below W0.heap.size wx ((wx.setCell ⟨g9, 0, none⟩ (.bool false)).setCell ⟨g9, 1, none⟩ (.slice (some ⟨gb, 0, none⟩) 2 2)) := below2 (Below.refl _ _) lh9 (.bool false) (.slice (some ⟨gb, 0, none⟩) 2 2)
            have hg9 := grown_trans (grown_setCell wx ⟨g9, 0, none⟩ (.bool false)) (grown_setCell (wx.setCell ⟨g9, 0, none⟩ (.bool false)) ⟨g9, 1, none⟩ (.slice (some ⟨gb, 0, none⟩) 2 2))
            refine hK _ _ (.inr (smBelow bb)) ?_
            replace h8 := Lib.hid (block_grown h8.out hg9 (fun e => n89 (Option.some.inj e)))
            replace na := Lib.hid (na.out.stores2 h9.out (by decide) (by decide) (.bool false) (.slice (some ⟨gb, 0, none⟩) 2 2))
            replace nb := Lib.hid (nb.out.stores2 h9.out (by decide) (by decide) (.bool false) (.slice (some ⟨gb, 0, none⟩) 2 2))
            replace h9 : Hid (((wx.setCell ⟨g9, 0, none⟩ (.bool false)).setCell ⟨g9, 1, none⟩ (.slice (some ⟨gb, 0, none⟩) 2 2)).heap[g9]? = _) := set2 h9.out (.bool false) (.slice (some ⟨gb, 0, none⟩) 2 2)
            replace hW := hW.trans bb
            clear hK K bb hg9 d0 d1 f0 f1
            refine doneT (by kernel_rfl) ?_
            exact ⟨g8, g9, ga, gb, _, _, _, _, _, _, _, _, rfl, hW, h8.out, h9.out, na.out, nb.out, lh8, lh9⟩
        · clear hi
          refine ⟨_, rfl, by rfl, ?_⟩
          intro K hK
          go_simp
          have bb := (Below.refl v51.heap.size v51).alloc (Nat.le_refl _) (.cells #[.bool false, .slice none 0 0] 28)
          refine hK _ _ (.inr (smB hW.size bb)) ?_
          have h8 := Lib.hid (heap_alloc_new v51 (.cells #[.bool false, .slice none 0 0] 28))
          have lh8 := hW.size
          replace h9 := Lib.hid ((bb.block _ (block_lt h9.out)).trans h9.out)
          replace h2 := Lib.hid (h2.out.belowTop bb)
          replace hW := hW.trans (bb.mono hW.size)
          clear hK K bb
          try simp only [List.setIfInBounds_toArray, List.set_cons_zero, List.set_cons_succ]
          generalize v51.alloc (.cells #[.bool false, .slice none 0 0] 28) = v57 at hW h9 h2 h8 ⊢
          generalize v51.heap.size = g8 at h8 lh8 ⊢
          refine stepTA [3] (by decide +kernel) (by decide) ?_
          intro i hi
          obtain rfl : i = 3 := by simpa using hi
          clear hi
          refine ⟨_, rfl, by rfl, ?_⟩
          intro K hK
          go_simp
          refine (KX.out v57 _ 4 h2.out).mono ?_
          rintro e v58 ⟨A3, c3, rfl, h3, bb⟩
          replace h3 := Lib.hid h3
          refine hK _ _ (.inr (smB hW.size bb)) ?_
          replace h9 := Lib.hid ((bb.block _ (block_lt h9.out)).trans h9.out)
          replace h2 := Lib.hid (h2.out.belowTop bb)
          replace h8 := Lib.hid ((bb.block _ (block_lt h8.out)).trans h8.out)
          replace hW := hW.trans (bb.mono hW.size)
          clear hK K bb
          try simp only [List.setIfInBounds_toArray, List.set_cons_zero, List.set_cons_succ]
          refine stepTA [4] (by decide +kernel) (by decide) ?_
          intro i hi
          obtain rfl : i = 4 := by simpa using hi
          clear hi
          refine ⟨_, rfl, by rfl, ?_⟩
          intro K hK
          go_simp
          refine (KR.out v58 _ _ _ _ (R0.out.below hW |>.more hW.size) h3.out).mono ?_
          rintro e v59 ⟨ga, gb, rfl, na, nb, bb⟩
          replace na := Lib.hid (na.mono (base' := W0.heap.size) hW.size)
          replace nb := Lib.hid (nb.mono (base' := W0.heap.size) hW.size)
          refine hK _ _ (.inr (smB hW.size bb)) ?_
          replace h9 := Lib.hid ((bb.block _ (block_lt h9.out)).trans h9.out)
          replace h2 := Lib.hid (h2.out.belowTop bb)
          replace h8 := Lib.hid ((bb.block _ (block_lt h8.out)).trans h8.out)
          replace h3 := Lib.hid ((h3.out.below bb).more bb.size)
          replace hW := hW.trans (bb.mono hW.size)
          clear hK K bb
          try simp only [List.setIfInBounds_toArray, List.set_cons_zero, List.set_cons_succ]
          ((first | (refine takeT 5 (v := ?_) rfl (by decide +kernel) (by decide +kernel) (by decide +kernel) (fun _ _ _ h => h) (by decide +kernel) (Or.inl ⟨by rfl, ?_⟩) ?_; rotate_left 1; (focus (intro W hW; have hcW := hW.at; (try dsimp only at hcW); go_simp; first | done | with_reducible rfl)); try simp only [Act.put, List.setIfInBounds_toArray, List.set_cons_zero, List.set_cons_succ]) | (refine takeW 5 (v := ?_) rfl (by decide +kernel) (by decide +kernel) (by decide +kernel) (fun _ _ _ h => h) (Or.inl ⟨by rfl, ?_⟩) ?_; rotate_left 1; (focus (intro W hW; go_simp; first | done | with_reducible rfl)); try simp only [Act.put, List.setIfInBounds_toArray, List.set_cons_zero, List.set_cons_succ]) | (refine takeW 5 rfl (by decide +kernel) (by decide +kernel) (by decide +kernel) (fun _ _ _ h => h) (Or.inr ⟨by rfl, rfl⟩) ?_; try simp only [Act.put, List.setIfInBounds_toArray, List.set_cons_zero, List.set_cons_succ]) | skip); (first | (refine takeT 6 (v := ?_) rfl (by decide +kernel) (by decide +kernel) (by decide +kernel) (fun _ _ _ h => h) (by decide +kernel) (Or.inl ⟨by rfl, ?_⟩) ?_; rotate_left 1; (focus (intro W hW; have hcW := hW.at; (try dsimp only at hcW); go_simp; first | done | with_reducible rfl)); try simp only [Act.put, List.setIfInBounds_toArray, List.set_cons_zero, List.set_cons_succ]) | (refine takeW 6 (v := ?_) rfl (by decide +kernel) (by decide +kernel) (by decide +kernel) (fun _ _ _ h => h) (Or.inl ⟨by rfl, ?_⟩) ?_; rotate_left 1; (focus (intro W hW; go_simp; first | done | with_reducible rfl)); try simp only [Act.put, List.setIfInBounds_toArray, List.set_cons_zero, List.set_cons_succ]) | (refine takeW 6 rfl (by decide +kernel) (by decide +kernel) (by decide +kernel) (fun _ _ _ h => h) (Or.inr ⟨by rfl, rfl⟩) ?_; try simp only [Act.put, List.setIfInBounds_toArray, List.set_cons_zero, List.set_cons_succ]) | skip); (first | (refine takeT 7 (v := ?_) rfl (by decide +kernel) (by decide +kernel) (by decide +kernel) (fun _ _ _ h => h) (by decide +kernel) (Or.inl ⟨by rfl, ?_⟩) ?_; rotate_left 1; (focus (intro W hW; have hcW := hW.at; (try dsimp only at hcW); go_simp; first | done | with_reducible rfl)); try simp only [Act.put, List.setIfInBounds_toArray, List.set_cons_zero, List.set_cons_succ]) | (refine takeW 7 (v := ?_) rfl (by decide +kernel) (by decide +kernel) (by decide +kernel) (fun _ _ _ h => h) (Or.inl ⟨by rfl, ?_⟩) ?_; rotate_left 1; (focus (intro W hW; go_simp; first | done | with_reducible rfl)); try simp only [Act.put, List.setIfInBounds_toArray, List.set_cons_zero, List.set_cons_succ]) | (refine takeW 7 rfl (by decide +kernel) (by decide +kernel) (by decide +kernel) (fun _ _ _ h => h) (Or.inr ⟨by rfl, rfl⟩) ?_; try simp only [Act.put, List.setIfInBounds_toArray, List.set_cons_zero, List.set_cons_succ]) | skip))
          have n89 := block_ne h8.out h9.out (by decide)
          have d0 := block_at h8.out (i := 0) (v := .bool false) rfl
          have d1 := block_at h8.out (i := 1) (v := .slice none 0 0) rfl
          have f0 := block_free h8.out 0
          have f1 := block_free h8.out 1
          refine stepT 10 rfl (by decide +kernel) (by rfl) ?_
          intro K hK
          go_simp
          have bb : Below W0.heap.size v59 ((v59.setCell ⟨g8, 0, none⟩ (.bool false)).setCell ⟨g8, 1, none⟩ (.slice (some ⟨ga, 0, none⟩) 1 1)) := below2 (Below.refl _ _) lh8 (.bool false) (.slice (some ⟨ga, 0, none⟩) 1 1)
          have hg8 := grown_trans (grown_setCell v59 ⟨g8, 0, none⟩ (.bool false)) (grown_setCell (v59.setCell ⟨g8, 0, none⟩ (.bool false)) ⟨g8, 1, none⟩ (.slice (some ⟨ga, 0, none⟩) 1 1))
          refine hK _ _ (.inr (smBelow bb)) ?_
          replace h9 := Lib.hid (block_grown h9.out hg8 (fun e => n89 (Option.some.inj e).symm))
          replace na := Lib.hid (na.out.stores2 h8.out (by decide) (by decide) (.bool false) (.slice (some ⟨ga, 0, none⟩) 1 1))
          replace nb := Lib.hid (nb.out.stores2 h8.out (by decide) (by decide) (.bool false) (.slice (some ⟨ga, 0, none⟩) 1 1))
          replace h8 : Hid (((v59.setCell ⟨g8, 0, none⟩ (.bool false)).setCell ⟨g8, 1, none⟩ (.slice (some ⟨ga, 0, none⟩) 1 1)).heap[g8]? = _) := set2 h8.out (.bool false) (.slice (some ⟨ga, 0, none⟩) 1 1)
          replace hW := hW.trans bb
          clear hK K bb hg8 d0 d1 f0 f1
          try simp only [List.setIfInBounds_toArray, List.set_cons_zero, List.set_cons_succ]
          generalize ((v59.setCell ⟨g8, 0, none⟩ (.bool false)).setCell ⟨g8, 1, none⟩ (.slice (some ⟨ga, 0, none⟩) 1 1)) = wx at h8 h9 na nb hW ⊢
          have d0 := block_at h9.out (i := 0) (v := .bool false) rfl
          have d1 := block_at h9.out (i := 1) (v := .slice none 0 0) rfl
          have f0 := block_free h9.out 0
          have f1 := block_free h9.out 1
          refine stepT 11 rfl (by decide +kernel) (by rfl) ?_
          intro K hK
          go_simp
          have bb : Below W0.heap.size wx ((wx.setCell ⟨g9, 0, none⟩ (.bool false)).setCell ⟨g9, 1, none⟩ (.slice (some ⟨gb, 0, none⟩) 2 2)) := below2 (Below.refl _ _) lh9 (.bool false) (.slice (some ⟨gb, 0, none⟩) 2 2)
          have hg9 := grown_trans (grown_setCell wx ⟨g9, 0, none⟩ (.bool false)) (grown_setCell (wx.setCell ⟨g9, 0, none⟩ (.bool false)) ⟨g9, 1, none⟩ (.slice (some ⟨gb, 0, none⟩) 2 2))
          refine hK _ _ (.inr (smBelow bb)) ?_
          replace h8 := Lib.hid (block_grown h8.out hg9 (fun e => n89 (Option.some.inj e)))
          replace na := Lib.hid (na.out.stores2 h9.out (by decide) (by decide) (.bool false) (.slice (some ⟨gb, 0, none⟩) 2 2))
          replace nb := Lib.hid (nb.out.stores2 h9.out (by decide) (by decide) (.bool false) (.slice (some ⟨gb, 0, none⟩) 2 2))
          replace h9 : Hid (((wx.setCell ⟨g9, 0, none⟩ (.bool false)).setCell ⟨g9, 1, none⟩ (.slice (some ⟨gb, 0, none⟩) 2 2)).heap[g9]? = _) := set2 h9.out (.bool false) (.slice (some ⟨gb, 0, none⟩) 2 2)
          replace hW := hW.trans bb
          clear hK K bb hg9 d0 d1 f0 f1
          refine doneT (by kernel_rfl) ?_
          exact ⟨g8, g9, ga, gb, _, _, _, _, _, _, _, _, rfl, hW, h8.out, h9.out, na.out, nb.out, lh8, lh9⟩
      · clear hi
        refine ⟨_, rfl, by rfl, ?_⟩
        intro K hK
        go_simp
        have bb := (Below.refl v50.heap.size v50).alloc (Nat.le_refl _) (.cells #[.bool false, .slice none 0 0] 28)
        refine hK _ _ (.inr (smB hW.size bb)) ?_
        have h8 := Lib.hid (heap_alloc_new v50 (.cells #[.bool false, .slice none 0 0] 28))
        have lh8 := hW.size
        replace h9 := Lib.hid ((bb.block _ (block_lt h9.out)).trans h9.out)
        replace hW := hW.trans (bb.mono hW.size)
        clear hK K bb
        try simp only [List.setIfInBounds_toArray, List.set_cons_zero, List.set_cons_succ]
        generalize v50.alloc (.cells #[.bool false, .slice none 0 0] 28) = v60 at hW h9 h8 ⊢
        generalize v50.heap.size = g8 at h8 lh8 ⊢
        refine stepTA [2] (by decide +kernel) (by decide) ?_
        intro i hi
        obtain rfl : i = 2 := by simpa using hi
        clear hi
        refine ⟨_, rfl, by rfl, ?_⟩
        intro K hK
        go_simp
        have bb := (Below.refl v60.heap.size v60).alloc (Nat.le_refl _) (.cells #[.int .u8 0, .int .u8 2, .int .u8 1, .int .u8 0] 5)
        have h2 := Lib.hid (show Rd (v60.alloc (.cells #[.int .u8 0, .int .u8 2, .int .u8 1, .int .u8 0] 5)) (v60.alloc (.cells #[.int .u8 0, .int .u8 2, .int .u8 1, .int .u8 0] 5)).heap.size (some ⟨v60.heap.size, 0, none⟩) 4 [0, 2, 1, 0] from rd_top v60 5 [0, 2, 1, 0] (by simp))
        refine hK _ _ (.inr (smB hW.size bb)) ?_
        replace h9 := Lib.hid ((bb.block _ (block_lt h9.out)).trans h9.out)
        replace h8 := Lib.hid ((bb.block _ (block_lt h8.out)).trans h8.out)
        replace hW := hW.trans (bb.mono hW.size)
        clear hK K bb
        try simp only [List.setIfInBounds_toArray, List.set_cons_zero, List.set_cons_succ]
        generalize v60.alloc (.cells #[.int .u8 0, .int .u8 2, .int .u8 1, .int .u8 0] 5) = v61 at hW h9 h8 h2 ⊢
        generalize v60.heap.size = q2 at h2 ⊢
        refine stepTA [3] (by decide +kernel) (by decide) ?_
        intro i hi
        obtain rfl : i = 3 := by simpa using hi
        clear hi
        refine ⟨_, rfl, by rfl, ?_⟩
        intro K hK
        go_simp
        refine (KX.out v61 _ 4 h2.out).mono ?_
        rintro e v62 ⟨A3, c3, rfl, h3, bb⟩
        replace h3 := Lib.hid h3
        refine hK _ _ (.inr (smB hW.size bb)) ?_
        replace h9 := Lib.hid ((bb.block _ (block_lt h9.out)).trans h9.out)
        replace h8 := Lib.hid ((bb.block _ (block_lt h8.out)).trans h8.out)
        replace h2 := Lib.hid (h2.out.belowTop bb)
        replace hW := hW.trans (bb.mono hW.size)
        clear hK K bb
        try simp only [List.setIfInBounds_toArray, List.set_cons_zero, List.set_cons_succ]
        refine stepTA [4] (by decide +kernel) (by decide) ?_
        intro i hi
        obtain rfl : i = 4 := by simpa using hi
        clear hi
        refine ⟨_, rfl, by rfl, ?_⟩
        intro K hK
        go_simp
        refine (KR.out v62 _ _ _ _ (R0.out.below hW |>.more hW.size) h3.out).mono ?_
        rintro e v63 ⟨ga, gb, rfl, na, nb, bb⟩
        replace na := Lib.hid (na.mono (base' := W0.heap.size) hW.size)
        replace nb := Lib.hid (nb.mono (base' := W0.heap.size) hW.size)
        refine hK _ _ (.inr (smB hW.size bb)) ?_
        replace h9 := Lib.hid ((bb.block _ (block_lt h9.out)).trans h9.out)
        replace h8 := Lib.hid ((bb.block _ (block_lt h8.out)).trans h8.out)
        replace h2 := Lib.hid (h2.out.belowTop bb)
        replace h3 := Lib.hid ((h3.out.below bb).more bb.size)
        replace hW := hW.trans (bb.mono hW.size)
        clear hK K bb
        try simp only [List.setIfInBounds_toArray, List.set_cons_zero, List.set_cons_succ]
        ((first | (refine takeT 5 (v := ?_) rfl (by decide +kernel) (by decide +kernel) (by decide +kernel) (fun _ _ _ h => h) (by decide +kernel) (Or.inl ⟨by rfl, ?_⟩) ?_; rotate_left 1; (focus (intro W hW; have hcW := hW.at; (try dsimp only at hcW); go_simp; first | done | with_reducible rfl)); try simp only [Act.put, List.setIfInBounds_toArray, List.set_cons_zero, List.set_cons_succ]) | (refine takeW 5 (v := ?_) rfl (by decide +kernel) (by decide +kernel) (by decide +kernel) (fun _ _ _ h => h) (Or.inl ⟨by rfl, ?_⟩) ?_; rotate_left 1; (focus (intro W hW; go_simp; first | done | with_reducible rfl)); try simp only [Act.put, List.setIfInBounds_toArray, List.set_cons_zero, List.set_cons_succ]) | (refine takeW 5 rfl (by decide +kernel) (by decide +kernel) (by decide +kernel) (fun _ _ _ h => h) (Or.inr ⟨by rfl, rfl⟩) ?_; try simp only [Act.put, List.setIfInBounds_toArray, List.set_cons_zero, List.set_cons_succ]) | skip); (first | (refine takeT 6 (v := ?_) rfl (by decide +kernel) (by decide +kernel) (by decide +kernel) (fun _ _ _ h => h) (by decide +kernel) (Or.inl ⟨by rfl, ?_⟩) ?_; rotate_left 1; (focus (intro W hW; have hcW := hW.at; (try dsimp only at hcW); go_simp; first | done | with_reducible rfl)); try simp only [Act.put, List.setIfInBounds_toArray, List.set_cons_zero, List.set_cons_succ]) | (refine takeW 6 (v := ?_) rfl (by decide +kernel) (by decide +kernel) (by decide +kernel) (fun _ _ _ h => h) (Or.inl ⟨by rfl, ?_⟩) ?_; rotate_left 1; (focus (intro W hW; go_simp; first | done | with_reducible rfl)); try simp only [Act.put, List.setIfInBounds_toArray, List.set_cons_zero, List.set_cons_succ]) | (refine takeW 6 rfl (by decide +kernel) (by decide +kernel) (by decide +kernel) (fun _ _ _ h => h) (Or.inr ⟨by rfl, rfl⟩) ?_; try simp only [Act.put, List.setIfInBounds_toArray, List.set_cons_zero, List.set_cons_succ]) | skip); (first | (refine takeT 7 (v := ?_) rfl (by decide +kernel) (by decide +kernel) (by decide +kernel) (fun _ _ _ h => h) (by decide +kernel) (Or.inl ⟨by rfl, ?_⟩) ?_; rotate_left 1; (focus (intro W hW; have hcW := hW.at; (try dsimp only at hcW); go_simp; first | done | with_reducible rfl)); try simp only [Act.put, List.setIfInBounds_toArray, List.set_cons_zero, List.set_cons_succ]) | (refine takeW 7 (v := ?_) rfl (by decide +kernel) (by decide +kernel) (by decide +kernel) (fun _ _ _ h => h) (Or.inl ⟨by rfl, ?_⟩) ?_; rotate_left 1; (focus (intro W hW; go_simp; first | done | with_reducible rfl)); try simp only [Act.put, List.setIfInBounds_toArray, List.set_cons_zero, List.set_cons_succ]) | (refine takeW 7 rfl (by decide +kernel) (by decide +kernel) (by decide +kernel) (fun _ _ _ h => h) (Or.inr ⟨by rfl, rfl⟩) ?_; try simp only [Act.put, List.setIfInBounds_toArray, List.set_cons_zero, List.set_cons_succ]) | skip))
        have n89 := block_ne h8.out h9.out (by decide)
        have d0 := block_at h8.out (i := 0) (v := .bool false) rfl
        have d1 := block_at h8.out (i := 1) (v := .slice none 0 0) rfl
        have f0 := block_free h8.out 0
        have f1 := block_free h8.out 1
        refine stepT 10 rfl (by decide +kernel) (by rfl) ?_
        intro K hK
        go_simp
        have bb : Below W0.heap.size v63 ((v63.setCell ⟨g8, 0, none⟩ (.bool false)).setCell ⟨g8, 1, none⟩ (.slice (some ⟨ga, 0, none⟩) 1 1)) := below2 (Below.refl _ _) lh8 (.bool false) (.slice (some ⟨ga, 0, none⟩) 1 1)
        have hg8 := grown_trans (grown_setCell v63 ⟨g8, 0, none⟩ (.bool false)) (grown_setCell (v63.setCell ⟨g8, 0, none⟩ (.bool false)) ⟨g8, 1, none⟩ (.slice (some ⟨ga, 0, none⟩) 1 1))
        refine hK _ _ (.inr (smBelow bb)) ?_
        replace h9 := Lib.hid (block_grown h9.out hg8 (fun e => n89 (Option.some.inj e).symm))
        replace na := Lib.hid (na.out.stores2 h8.out (by decide) (by decide) (.bool false) (.slice (some ⟨ga, 0, none⟩) 1 1))
        replace nb := Lib.hid (nb.out.stores2 h8.out (by decide) (by decide) (.bool false) (.slice (some ⟨ga, 0, none⟩) 1 1))
        replace h8 : Hid (((v63.setCell ⟨g8, 0, none⟩ (.bool false)).setCell ⟨g8, 1, none⟩ (.slice (some ⟨ga, 0, none⟩) 1 1)).heap[g8]? = _) := set2 h8.out (.bool false) (.slice (some ⟨ga, 0, none⟩) 1 1)
        replace hW := hW.trans bb
        clear hK K bb hg8 d0 d1 f0 f1
        try simp only [List.setIfInBounds_toArray, List.set_cons_zero, List.set_cons_succ]
        generalize ((v63.setCell ⟨g8, 0, none⟩ (.bool false)).setCell ⟨g8, 1, none⟩ (.slice (some ⟨ga, 0, none⟩) 1 1)) = wx at h8 h9 na nb hW ⊢
        have d0 := block_at h9.out (i := 0) (v := .bool false) rfl
        have d1 := block_at h9.out (i := 1) (v := .slice none 0 0) rfl
        have f0 := block_free h9.out 0
        have f1 := block_free h9.out 1
        refine stepT 11 rfl (by decide +kernel) (by rfl) ?_
        intro K hK
        go_simp
        have bb : Below W0.heap.size wx ((wx.setCell ⟨g9, 0, none⟩ (.bool false)).setCell ⟨g9, 1, none⟩ (.slice (some ⟨gb, 0, none⟩) 2 2)) := below2 (Below.refl _ _) lh9 (.bool false) (.slice (some ⟨gb, 0, none⟩) 2 2)
        have hg9 := grown_trans (grown_setCell wx ⟨g9, 0, none⟩ (.bool false)) (grown_setCell (wx.setCell ⟨g9, 0, none⟩ (.bool false)) ⟨g9, 1, none⟩ (.slice (some ⟨gb, 0, none⟩) 2 2))
        refine hK _ _ (.inr (smBelow bb)) ?_
        replace h8 := Lib.hid (block_grown h8.out hg9 (fun e => n89 (Option.some.inj e)))
        replace na := Lib.hid (na.out.stores2 h9.out (by decide) (by decide) (.bool false) (.slice (some ⟨gb, 0, none⟩) 2 2))
        replace nb := Lib.hid (nb.out.stores2 h9.out (by decide) (by decide) (.bool false) (.slice (some ⟨gb, 0, none⟩) 2 2))
        replace h9 : Hid (((wx.setCell ⟨g9, 0, none⟩ (.bool false)).setCell ⟨g9, 1, none⟩ (.slice (some ⟨gb, 0, none⟩) 2 2)).heap[g9]? = _) := set2 h9.out (.bool false) (.slice (some ⟨gb, 0, none⟩) 2 2)
        replace hW := hW.trans bb
        clear hK K bb hg9 d0 d1 f0 f1
        refine doneT (by kernel_rfl) ?_
        exact ⟨g8, g9, ga, gb, _, _, _, _, _, _, _, _, rfl, hW, h8.out, h9.out, na.out, nb.out, lh8, lh9⟩
    -- end of tree
  · rintro act w2 ⟨g8, g9, ga, gb, v18, v19, v20, v21, v22, v17, v23, v24, rfl, hW, h8, h9, na, nb, l8, l9⟩
    have hbl := block_lt hb.out
    have L2 : Lv w w2 b1 g g8 g9 ga gb false false [[3]] [[1], [2]] := ⟨hw0.out.trans (hW.mono hw0.out.size), (hW.block _ hbl).trans hb.out, h8, h9, n0.out.below hW, na.mono hw0.out.size, nb.mono hw0.out.size, by omega, Nat.le_trans hw0.out.size l8, Nat.le_trans hw0.out.size l9⟩
    clear hW h8 h9 na nb l8 l9 hb n0 R0 hw0 hbl
    clear W0
    have c81 := block_at L2.s8 (i := 1) (v := .slice (some ⟨ga, 0, none⟩) 1 1) rfl
    go_wp2_with fail
    obtain ⟨hr, hbb⟩ := built1 w2 (.int .u8 3) 3 rfl
    refine (lists_n _ 1 _ _ 1 1 [[3]] rfl ((L2.na.rds (sml_of (by decide) (by decide)).1).belowTop hbb) hr (by omega)).mono ?_
    rintro e w3 ⟨rfl, bb⟩
    have L3 := L2.to (hbb.trans (bb.mono hbb.size))
    clear hr hbb bb c81 L2
    have c91 := block_at L3.r9 (i := 1) (v := .slice (some ⟨gb, 0, none⟩) 2 2) rfl
    go_wp2_with fail
    obtain ⟨hr, hbb⟩ := built2 w3 (.int .u8 1) (.int .u8 2) 1 2 rfl rfl
    refine (lists_n _ 2 _ _ 2 2 [[1], [2]] rfl ((L3.nb.rds (sml_of (by decide) (by decide)).1).belowTop hbb) hr (by omega)).mono ?_
    rintro e w4 ⟨rfl, bb⟩
    have L4 := L3.to (hbb.trans (bb.mono hbb.size))
    clear hr hbb bb c91 L3
    have c80 := block_at L4.s8 (i := 0) (v := .bool false) rfl
    have c90 := block_at L4.r9 (i := 0) (v := .bool false) rfl
    go_wp2
    clear c80 c90
    have nn8 := L4.ne
    have nn9 : b1 ≠ g9 := block_ne L4.b L4.r9 (by decide)
    have e0 := block_at L4.b (i := 0) (v := .bool false) rfl
    have e1 := block_at L4.b (i := 1) (v := .slice (some ⟨g, 0, none⟩) 3 3) rfl
    have hbl := block_lt L4.b
    have L5 : Lv w w4.drew b1 g g8 g9 ga gb false false [[3]] [[1], [2]] := L4.to (Below.refl _ _).drew
    refine startT (S := fun a => a.block = b1) (T := []) 10 (by kernel_rfl) rfl (l := #[false, false, false, false, false, false, false, false, false, false]) rfl ?_
    ((first | (refine takeT 0 (v := ?_) rfl (by decide +kernel) (by decide +kernel) (by decide +kernel) (fun _ _ _ h => h) (by decide +kernel) (Or.inl ⟨by rfl, ?_⟩) ?_; rotate_left 1; (focus (intro W hW; have hcW := hW.at; (try dsimp only at hcW); go_simp; first | done | with_reducible rfl)); try simp only [Act.put, List.setIfInBounds_toArray, List.set_cons_zero, List.set_cons_succ]) | (refine takeW 0 (v := ?_) rfl (by decide +kernel) (by decide +kernel) (by decide +kernel) (fun _ _ _ h => h) (Or.inl ⟨by rfl, ?_⟩) ?_; rotate_left 1; (focus (intro W hW; go_simp; first | done | with_reducible rfl)); try simp only [Act.put, List.setIfInBounds_toArray, List.set_cons_zero, List.set_cons_succ]) | (refine takeW 0 rfl (by decide +kernel) (by decide +kernel) (by decide +kernel) (fun _ _ _ h => h) (Or.inr ⟨by rfl, rfl⟩) ?_; try simp only [Act.put, List.setIfInBounds_toArray, List.set_cons_zero, List.set_cons_succ]) | skip); (first | (refine takeT 1 (v := ?_) rfl (by decide +kernel) (by decide +kernel) (by decide +kernel) (fun _ _ _ h => h) (by decide +kernel) (Or.inl ⟨by rfl, ?_⟩) ?_; rotate_left 1; (focus (intro W hW; have hcW := hW.at; (try dsimp only at hcW); go_simp; first | done | with_reducible rfl)); try simp only [Act.put, List.setIfInBounds_toArray, List.set_cons_zero, List.set_cons_succ]) | (refine takeW 1 (v := ?_) rfl (by decide +kernel) (by decide +kernel) (by decide +kernel) (fun _ _ _ h => h) (Or.inl ⟨by rfl, ?_⟩) ?_; rotate_left 1; (focus (intro W hW; go_simp; first | done | with_reducible rfl)); try simp only [Act.put, List.setIfInBounds_toArray, List.set_cons_zero, List.set_cons_succ]) | (refine takeW 1 rfl (by decide +kernel) (by decide +kernel) (by decide +kernel) (fun _ _ _ h => h) (Or.inr ⟨by rfl, rfl⟩) ?_; try simp only [Act.put, List.setIfInBounds_toArray, List.set_cons_zero, List.set_cons_succ]) | skip))
    clear L4 hbl
    generalize w4.drew = w5 at L5 e0 e1 ⊢
    clear e0 e1
    have hbl := block_lt L5.b
    refine stepT 2 rfl (by decide +kernel) (by rfl) ?_
    intro K hK
    go_simp
    have bb := (Below.refl w5.heap.size w5).alloc (Nat.le_refl _) (.cells #[.int .u8 2] 5)
    have h2 := Lib.hid (show Rd (w5.alloc (.cells #[.int .u8 2] 5)) (w5.alloc (.cells #[.int .u8 2] 5)).heap.size (some ⟨w5.heap.size, 0, none⟩) 1 [2] from rd_top w5 5 [2] (by simp))
    refine hK _ _ (.inr fun a ha => bb.cell (by rw [ha]; exact hbl)) ?_
    replace L5 := L5.to bb
    clear hK K bb hbl
    try simp only [List.setIfInBounds_toArray, List.set_cons_zero, List.set_cons_succ]
    generalize w5.alloc (.cells #[.int .u8 2] 5) = w6 at h2 L5 ⊢
    generalize w5.heap.size = q2 at h2 ⊢
    have hbl := block_lt L5.b
    refine stepT 3 rfl (by decide +kernel) (by rfl) ?_
    intro K hK
    go_simp
    refine (KX2.out w6 _ 1 h2.out).mono ?_
    rintro e w7 ⟨A3, c3, rfl, h3, bb⟩
    refine hK _ _ (.inr fun a ha => bb.cell (by rw [ha]; exact hbl)) ?_
    replace L5 := L5.to bb
    replace h3 := Lib.hid h3
    clear hK K bb hbl h2
    try simp only [List.setIfInBounds_toArray, List.set_cons_zero, List.set_cons_succ]
    have hbl := block_lt L5.b
    refine stepT 4 rfl (by decide +kernel) (by rfl) ?_
    intro K hK
    go_simp
    refine (KR2.out w7 _ _ _ _ (L5.n.rds (sml_of (by decide) (by decide)).1) h3.out).mono ?_
    rintro e w8 ⟨ga2, gb2, rfl, na, nb, bb⟩
    refine hK _ _ (.inr fun a ha => bb.cell (by rw [ha]; exact hbl)) ?_
    replace na := Lib.hid (na.mono (base' := w.heap.size) L5.below.size)
    replace nb := Lib.hid (nb.mono (base' := w.heap.size) L5.below.size)
    replace L5 := L5.to bb
    clear hK K bb hbl h3
    try simp only [List.setIfInBounds_toArray, List.set_cons_zero, List.set_cons_succ]
    ((first | (refine takeT 5 (v := ?_) rfl (by decide +kernel) (by decide +kernel) (by decide +kernel) (fun _ _ _ h => h) (by decide +kernel) (Or.inl ⟨by rfl, ?_⟩) ?_; rotate_left 1; (focus (intro W hW; have hcW := hW.at; (try dsimp only at hcW); go_simp; first | done | with_reducible rfl)); try simp only [Act.put, List.setIfInBounds_toArray, List.set_cons_zero, List.set_cons_succ]) | (refine takeW 5 (v := ?_) rfl (by decide +kernel) (by decide +kernel) (by decide +kernel) (fun _ _ _ h => h) (Or.inl ⟨by rfl, ?_⟩) ?_; rotate_left 1; (focus (intro W hW; go_simp; first | done | with_reducible rfl)); try simp only [Act.put, List.setIfInBounds_toArray, List.set_cons_zero, List.set_cons_succ]) | (refine takeW 5 rfl (by decide +kernel) (by decide +kernel) (by decide +kernel) (fun _ _ _ h => h) (Or.inr ⟨by rfl, rfl⟩) ?_; try simp only [Act.put, List.setIfInBounds_toArray, List.set_cons_zero, List.set_cons_succ]) | skip); (first | (refine takeT 6 (v := ?_) rfl (by decide +kernel) (by decide +kernel) (by decide +kernel) (fun _ _ _ h => h) (by decide +kernel) (Or.inl ⟨by rfl, ?_⟩) ?_; rotate_left 1; (focus (intro W hW; have hcW := hW.at; (try dsimp only at hcW); go_simp; first | done | with_reducible rfl)); try simp only [Act.put, List.setIfInBounds_toArray, List.set_cons_zero, List.set_cons_succ]) | (refine takeW 6 (v := ?_) rfl (by decide +kernel) (by decide +kernel) (by decide +kernel) (fun _ _ _ h => h) (Or.inl ⟨by rfl, ?_⟩) ?_; rotate_left 1; (focus (intro W hW; go_simp; first | done | with_reducible rfl)); try simp only [Act.put, List.setIfInBounds_toArray, List.set_cons_zero, List.set_cons_succ]) | (refine takeW 6 rfl (by decide +kernel) (by decide +kernel) (by decide +kernel) (fun _ _ _ h => h) (Or.inr ⟨by rfl, rfl⟩) ?_; try simp only [Act.put, List.setIfInBounds_toArray, List.set_cons_zero, List.set_cons_succ]) | skip); (first | (refine takeT 7 (v := ?_) rfl (by decide +kernel) (by decide +kernel) (by decide +kernel) (fun _ _ _ h => h) (by decide +kernel) (Or.inl ⟨by rfl, ?_⟩) ?_; rotate_left 1; (focus (intro W hW; have hcW := hW.at; (try dsimp only at hcW); go_simp; first | done | with_reducible rfl)); try simp only [Act.put, List.setIfInBounds_toArray, List.set_cons_zero, List.set_cons_succ]) | (refine takeW 7 (v := ?_) rfl (by decide +kernel) (by decide +kernel) (by decide +kernel) (fun _ _ _ h => h) (Or.inl ⟨by rfl, ?_⟩) ?_; rotate_left 1; (focus (intro W hW; go_simp; first | done | with_reducible rfl)); try simp only [Act.put, List.setIfInBounds_toArray, List.set_cons_zero, List.set_cons_succ]) | (refine takeW 7 rfl (by decide +kernel) (by decide +kernel) (by decide +kernel) (fun _ _ _ h => h) (Or.inr ⟨by rfl, rfl⟩) ?_; try simp only [Act.put, List.setIfInBounds_toArray, List.set_cons_zero, List.set_cons_succ]) | skip))
    have d0 := block_at L5.s8 (i := 0) (v := .bool false) rfl
    have d1 := block_at L5.s8 (i := 1) (v := .slice (some ⟨ga, 0, none⟩) 1 1) rfl
    have f0 := block_free L5.s8 0
    have f1 := block_free L5.s8 1
    refine stepT 8 rfl (by decide +kernel) (by rfl) ?_
    intro K hK
    go_simp
    refine hK _ _ (.inr fun a ha => by rw [World.cell?_setCell_other _ _ _ _ (fun e => by subst e; exact nn8 ha.symm), World.cell?_setCell_other _ _ _ _ (fun e => by subst e; exact nn8 ha.symm)]) ?_
    replace nb := Lib.hid (nb.out.stores2 L5.s8 (by decide) (by decide) (.bool false) (.slice (some ⟨ga2, 0, none⟩) 3 3))
    have L6 : Lv w ((w8.setCell ⟨g8, 0, none⟩ (.bool false)).setCell ⟨g8, 1, none⟩ (.slice (some ⟨ga2, 0, none⟩) 3 3)) b1 g g8 g9 ga2 gb false false [[1], [2], [3]] [[1], [2]] := L5.set8 na.out false
    clear hK K L5 d0 d1 f0 f1 na
    try simp only [List.setIfInBounds_toArray, List.set_cons_zero, List.set_cons_succ]
    generalize (w8.setCell ⟨g8, 0, none⟩ (.bool false)).setCell ⟨g8, 1, none⟩ (.slice (some ⟨ga2, 0, none⟩) 3 3) = w9 at L6 nb ⊢
    have d0 := block_at L6.r9 (i := 0) (v := .bool false) rfl
    have d1 := block_at L6.r9 (i := 1) (v := .slice (some ⟨gb, 0, none⟩) 2 2) rfl
    have f0 := block_free L6.r9 0
    have f1 := block_free L6.r9 1
    refine stepT 9 rfl (by decide +kernel) (by rfl) ?_
    intro K hK
    go_simp
    refine hK _ _ (.inr fun a ha => by rw [World.cell?_setCell_other _ _ _ _ (fun e => by subst e; exact nn9 ha.symm), World.cell?_setCell_other _ _ _ _ (fun e => by subst e; exact nn9 ha.symm)]) ?_
    have L7 : Lv w ((w9.setCell ⟨g9, 0, none⟩ (.bool true)).setCell ⟨g9, 1, none⟩ (.slice (some ⟨gb2, 0, none⟩) 1 1)) b1 g g8 g9 ga2 gb2 false true [[1], [2], [3]] [[1]] := L6.set9 nb.out true
    clear hK K L6 d0 d1 f0 f1 nb
    try simp only [List.setIfInBounds_toArray, List.set_cons_zero, List.set_cons_succ]
    generalize (w9.setCell ⟨g9, 0, none⟩ (.bool true)).setCell ⟨g9, 1, none⟩ (.slice (some ⟨gb2, 0, none⟩) 1 1) = wa at L7 ⊢
    refine doneT (by kernel_rfl) ?_
    have c80 := block_at L7.s8 (i := 0) (v := .bool false) rfl
    have c81 := block_at L7.s8 (i := 1) (v := .slice (some ⟨ga2, 0, none⟩) 3 3) rfl
    have c90 := block_at L7.r9 (i := 0) (v := .bool true) rfl
    have c91 := block_at L7.r9 (i := 1) (v := .slice (some ⟨gb2, 0, none⟩) 1 1) rfl
    go_wp2_with fail
    refine (KC.out wa _ _ _ _ _ _ (L7.na.rds (sml_of (by decide) (by decide)).1) (L7.nb.rds (sml_of (by decide) (by decide)).1)).mono ?_
    rintro e wb ⟨ga3, gb3, rfl, na, nb, bb⟩
    replace na := Lib.hid (na.mono (base' := w.heap.size) L7.below.size)
    replace nb := Lib.hid (nb.mono (base' := w.heap.size) L7.below.size)
    replace L7 := L7.to bb
    clear bb c80 c81 c90 c91
    have n89 : ¬ g8 = g9 := block_ne L7.s8 L7.r9 (by decide)
    have n98 : ¬ g9 = g8 := fun e => n89 e.symm
    have d0 := block_at L7.s8 (i := 0) (v := .bool false) rfl
    have d1 := block_at L7.s8 (i := 1) (v := .slice (some ⟨ga2, 0, none⟩) 3 3) rfl
    have f0 := block_free L7.s8 0
    have f1 := block_free L7.s8 1
    have d2 := block_at L7.r9 (i := 0) (v := .bool true) rfl
    have d3 := block_at L7.r9 (i := 1) (v := .slice (some ⟨gb2, 0, none⟩) 1 1) rfl
    have f2 := block_free L7.r9 0
    have f3 := block_free L7.r9 1
    have L8 : Lv w ((wb.setCell ⟨g8, 0, none⟩ (.bool false)).setCell ⟨g8, 1, none⟩ (.slice (some ⟨ga3, 0, none⟩) 3 3)) b1 g g8 g9 ga3 gb2 false true [[1], [2], [3]] [[1]] := L7.set8 na.out false
    have L9 : Lv w ((((wb.setCell ⟨g8, 0, none⟩ (.bool false)).setCell ⟨g8, 1, none⟩ (.slice (some ⟨ga3, 0, none⟩) 3 3)).setCell ⟨g9, 0, none⟩ (.bool false)).setCell ⟨g9, 1, none⟩ (.slice (some ⟨gb3, 0, none⟩) 1 1)) b1 g g8 g9 ga3 gb3 false false [[1], [2], [3]] [[1]] := L8.set9 (nb.out.stores2 L7.s8 (by decide) (by decide) (.bool false) (.slice (some ⟨ga3, 0, none⟩) 3 3)) false
    clear L7 L8 na nb
    have c80 := block_at L9.s8 (i := 0) (v := .bool false) rfl
    have c81 := block_at L9.s8 (i := 1) (v := .slice (some ⟨ga3, 0, none⟩) 3 3) rfl
    have c90 := block_at L9.r9 (i := 0) (v := .bool false) rfl
    have c91 := block_at L9.r9 (i := 1) (v := .slice (some ⟨gb3, 0, none⟩) 1 1) rfl
    go_wp2_with fail
    clear d0 d1 d2 d3 f0 f1 f2 f3 n89 n98 c80 c81 c90 c91
    have hsz : ((((wb.setCell ⟨g8, 0, none⟩ (.bool false)).setCell ⟨g8, 1, none⟩ (.slice (some ⟨ga3, 0, none⟩) 3 3)).setCell ⟨g9, 0, none⟩ (.bool false)).setCell ⟨g9, 1, none⟩ (.slice (some ⟨gb3, 0, none⟩) 1 1)).heap.size = wb.heap.size := by simp
    rw [← hsz]
    clear hsz
    generalize (((wb.setCell ⟨g8, 0, none⟩ (.bool false)).setCell ⟨g8, 1, none⟩ (.slice (some ⟨ga3, 0, none⟩) 3 3)).setCell ⟨g9, 0, none⟩ (.bool false)).setCell ⟨g9, 1, none⟩ (.slice (some ⟨gb3, 0, none⟩) 1 1) = wc at L9 ⊢
    have hxb := (Below.refl wc.heap.size wc).alloc (Nat.le_refl _) (.cells #[.bool false, .bool false] 56)
    refine (KR3.out _ _ _ _ _ _ _ ((L9.na.rds (sml_of (by decide) (by decide)).1).belowTop hxb) ((L9.nb.rds (sml_of (by decide) (by decide)).1).belowTop hxb) (rdx_one wc false false)).mono ?_
    rintro e wd ⟨ga4, gb4, rfl, na, nb, bb⟩
    replace na := Lib.hid (na.mono (base' := w.heap.size) (Nat.le_trans L9.below.size hxb.size))
    replace nb := Lib.hid (nb.mono (base' := w.heap.size) (Nat.le_trans L9.below.size hxb.size))
    replace L9 := L9.to (hxb.trans (bb.mono hxb.size))
    clear bb hxb
    have n89 : ¬ g8 = g9 := block_ne L9.s8 L9.r9 (by decide)
    have n98 : ¬ g9 = g8 := fun e => n89 e.symm
    have d0 := block_at L9.s8 (i := 0) (v := .bool false) rfl
    have d1 := block_at L9.s8 (i := 1) (v := .slice (some ⟨ga3, 0, none⟩) 3 3) rfl
    have f0 := block_free L9.s8 0
    have f1 := block_free L9.s8 1
    have d2 := block_at L9.r9 (i := 0) (v := .bool false) rfl
    have d3 := block_at L9.r9 (i := 1) (v := .slice (some ⟨gb3, 0, none⟩) 1 1) rfl
    have f2 := block_free L9.r9 0
    have f3 := block_free L9.r9 1
    have M8 : Lv w ((wd.setCell ⟨g8, 0, none⟩ (.bool true)).setCell ⟨g8, 1, none⟩ (.slice (some ⟨ga4, 0, none⟩) 2 2)) b1 g g8 g9 ga4 gb3 true false [[2], [3]] [[1]] := L9.set8 na.out true
    have M9 : Lv w ((((wd.setCell ⟨g8, 0, none⟩ (.bool true)).setCell ⟨g8, 1, none⟩ (.slice (some ⟨ga4, 0, none⟩) 2 2)).setCell ⟨g9, 0, none⟩ (.bool true)).setCell ⟨g9, 1, none⟩ (.slice (some ⟨gb4, 0, none⟩) 2 2)) b1 g g8 g9 ga4 gb4 true true [[2], [3]] [[1], [1]] := M8.set9 (nb.out.stores2 L9.s8 (by decide) (by decide) (.bool true) (.slice (some ⟨ga4, 0, none⟩) 2 2)) true
    clear L9 M8 na nb
    have c81 := block_at M9.s8 (i := 1) (v := .slice (some ⟨ga4, 0, none⟩) 2 2) rfl
    go_wp2_with fail
    clear d0 d1 d2 d3 f0 f1 f2 f3 n89 n98 c81
    have hsz : ((((wd.setCell ⟨g8, 0, none⟩ (.bool true)).setCell ⟨g8, 1, none⟩ (.slice (some ⟨ga4, 0, none⟩) 2 2)).setCell ⟨g9, 0, none⟩ (.bool true)).setCell ⟨g9, 1, none⟩ (.slice (some ⟨gb4, 0, none⟩) 2 2)).heap.size = wd.heap.size := by simp
    rw [← hsz]
    clear hsz
    generalize (((wd.setCell ⟨g8, 0, none⟩ (.bool true)).setCell ⟨g8, 1, none⟩ (.slice (some ⟨ga4, 0, none⟩) 2 2)).setCell ⟨g9, 0, none⟩ (.bool true)).setCell ⟨g9, 1, none⟩ (.slice (some ⟨gb4, 0, none⟩) 2 2) = we at M9 ⊢
    obtain ⟨hr, hbb⟩ := built2 we (.int .u8 2) (.int .u8 3) 2 3 rfl rfl
    refine (lists_n _ 2 _ _ 2 2 [[2], [3]] rfl ((M9.na.rds (sml_of (by decide) (by decide)).1).belowTop hbb) hr (by omega)).mono ?_
    rintro e wf ⟨rfl, bb⟩
    have N1 := M9.to (hbb.trans (bb.mono hbb.size))
    clear hr hbb bb M9
    have c91 := block_at N1.r9 (i := 1) (v := .slice (some ⟨gb4, 0, none⟩) 2 2) rfl
    go_wp2_with fail
    obtain ⟨hr, hbb⟩ := built2 wf (.int .u8 1) (.int .u8 1) 1 1 rfl rfl
    refine (lists_n _ 2 _ _ 2 2 [[1], [1]] rfl ((N1.nb.rds (sml_of (by decide) (by decide)).1).belowTop hbb) hr (by omega)).mono ?_
    rintro e wg ⟨rfl, bb⟩
    have N2 := N1.to (hbb.trans (bb.mono hbb.size))
    clear hr hbb bb c91 N1
    have c80 := block_at N2.s8 (i := 0) (v := .bool true) rfl
    have c90 := block_at N2.r9 (i := 0) (v := .bool true) rfl
    go_wp2_with fail
    clear c80 c90
    obtain ⟨hr, hbb⟩ := builtZ wg 1025 (by omega)
    refine (KB.out _ _ 1 hr).mono ?_
    rintro e wh ⟨rfl, bb⟩
    have B1 := Lib.hid (N2.below.trans ((hbb.trans (bb.mono hbb.size)).mono N2.below.size))
    clear hr hbb bb N2
    go_wp2_with fail
    refine (acks_none wh false none 0).mono ?_
    rintro e wi ⟨rfl, bb⟩
    have B2 := Lib.hid (B1.out.trans (bb.mono B1.out.size))
    clear bb B1
    go_wp2_with fail
    have hbb := ((Below.refl wi.heap.size wi).alloc (Nat.le_refl _) (.cells #[.bool false, .slice none 0 0] 28)).alloc (by simp) (.cells #[.int .u8 1] 5)
    refine (KH.out _ _).mono ?_
    rintro e wj ⟨g5, rfl, bb⟩
    have B3 := Lib.hid (B2.out.trans ((hbb.trans (bb.mono hbb.size)).mono B2.out.size))
    clear bb hbb B2
    go_wp2
    go_ret
    exact ⟨rfl, B3.out.alloc B3.out.size _⟩

end Go.Proofs.Ytjilbgdenolllaa

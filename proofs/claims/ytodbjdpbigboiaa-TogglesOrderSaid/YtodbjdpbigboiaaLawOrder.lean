/-
  The law TogglesOrder is walked for any packets and losses; no statement is proved here.
-/
import Derived.Test.YtodbjdpbigboiaaLw4
namespace Go.Proofs.Ytodbjdpbigboiaa
open Go Go.RowKit

set_option maxHeartbeats 800000 in
set_option maxRecDepth 100000 in
theorem order_small (w : World) (A A2 : Option Addr) (c c2 n2 : Nat) (ps : List (List UInt8)) (h : Rds w w.heap.size A c ps) (hs : ¬ SmallP ps 40) :
    Calls Try.prog 6 #[.slice A ps.length c, .slice A2 n2 c2] w (ResB w true) := by
  have KS := Lib.hid (small_no w A c ps h 40 (by omega) hs)
  go_enter Try.func6, Try.ntmps6
  go_wp2_with fail
  refine KS.out.mono ?_
  rintro e w1 ⟨rfl, rfl⟩
  go_wp2
  go_ret
  exact ⟨rfl, Below.refl _ _⟩
set_option maxHeartbeats 800000 in
set_option maxRecDepth 100000 in
theorem order_many (w : World) (A A2 : Option Addr) (c c2 n2 : Nat) (ps : List (List UInt8)) (h : Rds w w.heap.size A c ps) (hs : SmallP ps 40) (hn : 300 < n2) :
    Calls Try.prog 6 #[.slice A ps.length c, .slice A2 n2 c2] w (ResB w true) := by
  have KS := Lib.hid (small_yes w A c ps h 40 (by omega) hs)
  have hn' : (300 : Int) < (n2 : Int) := by omega
  go_enter Try.func6, Try.ntmps6
  go_wp2_with fail
  refine KS.out.mono ?_
  rintro e w1 ⟨rfl, rfl⟩
  go_wp2
  go_ret
  exact ⟨rfl, Below.refl _ _⟩

set_option maxHeartbeats 3200000 in
set_option maxRecDepth 100000 in
theorem order_good (w : World) (A A2 : Option Addr) (c c2 : Nat) (ps : List (List UInt8)) (h : Rds w w.heap.size A c ps) (hs : SmallP ps 40) (xs : List UInt8) (h2 : Rd w w.heap.size A2 c2 xs) (hn : xs.length ≤ 300) :
    Calls Try.prog 6 #[.slice A ps.length c, .slice A2 xs.length c2] w (ResB w true) := by
  have KS := Lib.hid (small_yes w A c ps h 40 (by omega) hs)
  have hn' : ¬ (300 : Int) < (xs.length : Int) := by omega
  have hsm := hs.sml (by omega)
  have KN := Lib.hid (new_good w A c ps h (by have := hs.1; omega) (fun j => by have := hs.all j; omega))
  have hps := hs.1
  have hx0 : SmlP ⟨false, ps, false, []⟩ := ⟨hsm.2, fun j => by simp [List.getD], hsm.1⟩
  have KR : Hid (∀ (W : World) (A A2 : Option Addr) (c c2 : Nat), Rds W W.heap.size A c ps → RdX W W.heap.size A2 c2 (exL xs) → Calls Try.prog 19 #[sv false (.slice A ps.length c), sv false (.slice none 0 0), .slice A2 (exL xs).length c2] W (ResR W (runP ⟨false, ps, false, []⟩ (exL xs)))) := fun W A A2 c c2 h h2 =>
    run_any W ⟨false, ps, false, []⟩ A c none 0 A2 c2 (exL xs) h (Rds.nil _ _) h2 hx0 (by unfold exL; rw [List.length_map]; show 0 + _ ≤ _; omega)
  have KX : Hid (∀ (W : World) (A : Option Addr) (c : Nat), Rd W W.heap.size A c xs → Calls Try.prog 20 #[.slice A xs.length c] W fun e w' => ∃ A' c', e = .returned (.slice A' (exL xs).length c') ∧ RdX w' w'.heap.size A' c' (exL xs) ∧ Below W.heap.size W w') := fun W A c h => exchanges_any W A c xs h (by omega)
  have hinv := (Inv.start ps).run (exL xs)
  have hsy := hx0.run (exL xs)
  obtain ⟨y, hy⟩ : ∃ y, runP ⟨false, ps, false, []⟩ (exL xs) = y := ⟨_, rfl⟩
  rw [hy] at KR hinv hsy
  clear hy
  generalize (exL xs).length = m at KR KX
  generalize exL xs = es at KR KX
  go_enter Try.func6, Try.ntmps6
  go_wp2_with fail
  refine KS.out.mono ?_
  rintro e w1 ⟨rfl, rfl⟩
  go_wp2_with fail
  refine KN.out.mono ?_
  rintro e w1 ⟨g, rfl, hn1, hb1⟩
  go_wp2
  have hw0 := Lib.hid (hb1.alloc hb1.size (.cells #[.bool false, .slice (some ⟨g, 0, none⟩) ps.length ps.length] 28))
  have n0 := Lib.hid (hn1.below ((Below.refl _ _).alloc (Nat.le_refl _) (.cells #[.bool false, .slice (some ⟨g, 0, none⟩) ps.length ps.length] 28)))
  have hb := Lib.hid (heap_alloc_new w1 (.cells #[.bool false, .slice (some ⟨g, 0, none⟩) ps.length ps.length] 28))
  have hge5 := hb1.size
  have H2 := Lib.hid (h2.belowTop hw0.out)
  have H1 := Lib.hid h
  have h1c := Lib.hid h.le
  replace hsm := Lib.hid hsm
  clear hn1 hb1 h h2
  generalize w1.alloc (.cells #[.bool false, .slice (some ⟨g, 0, none⟩) ps.length ps.length] 28) = W0 at hw0 n0 hb H2 ⊢
  generalize w1.heap.size = b5 at hb hge5 ⊢
  have hb5 := block_lt hb.out
  refine region_inv (fun a₀ act w' => ∃ (g8 ga gb : Nat) (v26 v27 v28 v29 v30 v25 v31 v32 : Value),
      act = ((((((((a₀.put (some 26) v26).put (some 27) v27).put (some 28) v28).put (some 29) v29).put (some 30) v30).put (some 25) v25).put (some 31) v31).put (some 32) v32).put (some 7) (.pointer (some ⟨g8, 0, none⟩)) ∧
      Below w.heap.size w w' ∧ w'.heap[b5]? = some (.cells #[.bool y.st, .slice (some ⟨ga, 0, none⟩) y.left.length y.left.length] 28 (0, 0)) ∧ w'.heap[g8]? = some (.cells #[.bool y.rt, .slice (some ⟨gb, 0, none⟩) y.got.length y.got.length] 39 (0, 0)) ∧
      News w' w.heap.size ga y.left ∧ News w' w.heap.size gb y.got ∧ w.heap.size ≤ g8) ?_ ?_
  · have e0 := block_at hb.out (i := 0) (v := .bool false) rfl
    have e1 := block_at hb.out (i := 1) (v := .slice (some ⟨g, 0, none⟩) ps.length ps.length) rfl
    refine startT (S := fun a => a.block = b5) (T := [9]) 11 (by kernel_rfl) rfl (l := #[false, false, false, false, false, false, false, false, false, false, false]) rfl ?_
    have hW : Below W0.heap.size W0 W0.drew := (Below.refl _ _).drew
    ((first | (refine takeT 0 (v := ?_) rfl (by decide +kernel) (by decide +kernel) (by decide +kernel) (fun _ _ _ h => h) (by decide +kernel) (Or.inl ⟨by rfl, ?_⟩) ?_; rotate_left 1; (focus (intro W hW; have hcW := hW.at; (try dsimp only at hcW); go_simp; first | done | with_reducible rfl)); try simp only [Act.put, List.setIfInBounds_toArray, List.set_cons_zero, List.set_cons_succ]) | (refine takeW 0 (v := ?_) rfl (by decide +kernel) (by decide +kernel) (by decide +kernel) (fun _ _ _ h => h) (Or.inl ⟨by rfl, ?_⟩) ?_; rotate_left 1; (focus (intro W hW; go_simp; first | done | with_reducible rfl)); try simp only [Act.put, List.setIfInBounds_toArray, List.set_cons_zero, List.set_cons_succ]) | (refine takeW 0 rfl (by decide +kernel) (by decide +kernel) (by decide +kernel) (fun _ _ _ h => h) (Or.inr ⟨by rfl, rfl⟩) ?_; try simp only [Act.put, List.setIfInBounds_toArray, List.set_cons_zero, List.set_cons_succ]) | skip); (first | (refine takeT 1 (v := ?_) rfl (by decide +kernel) (by decide +kernel) (by decide +kernel) (fun _ _ _ h => h) (by decide +kernel) (Or.inl ⟨by rfl, ?_⟩) ?_; rotate_left 1; (focus (intro W hW; have hcW := hW.at; (try dsimp only at hcW); go_simp; first | done | with_reducible rfl)); try simp only [Act.put, List.setIfInBounds_toArray, List.set_cons_zero, List.set_cons_succ]) | (refine takeW 1 (v := ?_) rfl (by decide +kernel) (by decide +kernel) (by decide +kernel) (fun _ _ _ h => h) (Or.inl ⟨by rfl, ?_⟩) ?_; rotate_left 1; (focus (intro W hW; go_simp; first | done | with_reducible rfl)); try simp only [Act.put, List.setIfInBounds_toArray, List.set_cons_zero, List.set_cons_succ]) | (refine takeW 1 rfl (by decide +kernel) (by decide +kernel) (by decide +kernel) (fun _ _ _ h => h) (Or.inr ⟨by rfl, rfl⟩) ?_; try simp only [Act.put, List.setIfInBounds_toArray, List.set_cons_zero, List.set_cons_succ]) | skip); (first | (refine takeT 2 (v := ?_) rfl (by decide +kernel) (by decide +kernel) (by decide +kernel) (fun _ _ _ h => h) (by decide +kernel) (Or.inl ⟨by rfl, ?_⟩) ?_; rotate_left 1; (focus (intro W hW; have hcW := hW.at; (try dsimp only at hcW); go_simp; first | done | with_reducible rfl)); try simp only [Act.put, List.setIfInBounds_toArray, List.set_cons_zero, List.set_cons_succ]) | (refine takeW 2 (v := ?_) rfl (by decide +kernel) (by decide +kernel) (by decide +kernel) (fun _ _ _ h => h) (Or.inl ⟨by rfl, ?_⟩) ?_; rotate_left 1; (focus (intro W hW; go_simp; first | done | with_reducible rfl)); try simp only [Act.put, List.setIfInBounds_toArray, List.set_cons_zero, List.set_cons_succ]) | (refine takeW 2 rfl (by decide +kernel) (by decide +kernel) (by decide +kernel) (fun _ _ _ h => h) (Or.inr ⟨by rfl, rfl⟩) ?_; try simp only [Act.put, List.setIfInBounds_toArray, List.set_cons_zero, List.set_cons_succ]) | skip))
    generalize W0.drew = v0 at hW ⊢
    clear e0 e1
    -- tree
    refine stepTA [3, 8] (by decide +kernel) (by decide) ?_
    intro i hi
    rcases (by simpa using hi : i = 3 ∨ i = 8) with rfl | rfl
    · clear hi
      refine ⟨_, rfl, by rfl, ?_⟩
      intro K hK
      go_simp
      refine (KX.out v0 A2 c2 (H2.out.below hW |>.more hW.size)).mono ?_
      rintro e v1 ⟨A3, c3, rfl, h3, bb⟩
      replace h3 := Lib.hid h3
      refine hK _ _ (.inr (fun a ha => bb.cell (by rw [ha]; exact Nat.lt_of_lt_of_le hb5 hW.size))) ?_
      replace hW := hW.trans (bb.mono hW.size)
      clear hK K bb
      try simp only [Act.put, List.setIfInBounds_toArray, List.set_cons_zero, List.set_cons_succ]
      refine stepTA [4, 8] (by decide +kernel) (by decide) ?_
      intro i hi
      rcases (by simpa using hi : i = 4 ∨ i = 8) with rfl | rfl
      · clear hi
        refine ⟨_, rfl, by rfl, ?_⟩
        intro K hK
        go_simp
        refine (KR.out v1 _ _ _ _ ((n0.out.rds hsm.out).below hW |>.more hW.size) h3.out).mono ?_
        rintro e v2 ⟨ga, gb, rfl, na, nb, bb⟩
        replace na := Lib.hid (na.mono (base' := w.heap.size) (Nat.le_trans hw0.out.size hW.size))
        replace nb := Lib.hid (nb.mono (base' := w.heap.size) (Nat.le_trans hw0.out.size hW.size))
        refine hK _ _ (.inr (fun a ha => bb.cell (by rw [ha]; exact Nat.lt_of_lt_of_le hb5 hW.size))) ?_
        replace h3 := Lib.hid ((h3.out.below bb).more bb.size)
        replace hW := hW.trans (bb.mono hW.size)
        clear hK K bb
        try simp only [Act.put, List.setIfInBounds_toArray, List.set_cons_zero, List.set_cons_succ]
        ((first | (refine takeT 5 (v := ?_) rfl (by decide +kernel) (by decide +kernel) (by decide +kernel) (fun _ _ _ h => h) (by decide +kernel) (Or.inl ⟨by rfl, ?_⟩) ?_; rotate_left 1; (focus (intro W hW; have hcW := hW.at; (try dsimp only at hcW); go_simp; first | done | with_reducible rfl)); try simp only [Act.put, List.setIfInBounds_toArray, List.set_cons_zero, List.set_cons_succ]) | (refine takeW 5 (v := ?_) rfl (by decide +kernel) (by decide +kernel) (by decide +kernel) (fun _ _ _ h => h) (Or.inl ⟨by rfl, ?_⟩) ?_; rotate_left 1; (focus (intro W hW; go_simp; first | done | with_reducible rfl)); try simp only [Act.put, List.setIfInBounds_toArray, List.set_cons_zero, List.set_cons_succ]) | (refine takeW 5 rfl (by decide +kernel) (by decide +kernel) (by decide +kernel) (fun _ _ _ h => h) (Or.inr ⟨by rfl, rfl⟩) ?_; try simp only [Act.put, List.setIfInBounds_toArray, List.set_cons_zero, List.set_cons_succ]) | skip); (first | (refine takeT 6 (v := ?_) rfl (by decide +kernel) (by decide +kernel) (by decide +kernel) (fun _ _ _ h => h) (by decide +kernel) (Or.inl ⟨by rfl, ?_⟩) ?_; rotate_left 1; (focus (intro W hW; have hcW := hW.at; (try dsimp only at hcW); go_simp; first | done | with_reducible rfl)); try simp only [Act.put, List.setIfInBounds_toArray, List.set_cons_zero, List.set_cons_succ]) | (refine takeW 6 (v := ?_) rfl (by decide +kernel) (by decide +kernel) (by decide +kernel) (fun _ _ _ h => h) (Or.inl ⟨by rfl, ?_⟩) ?_; rotate_left 1; (focus (intro W hW; go_simp; first | done | with_reducible rfl)); try simp only [Act.put, List.setIfInBounds_toArray, List.set_cons_zero, List.set_cons_succ]) | (refine takeW 6 rfl (by decide +kernel) (by decide +kernel) (by decide +kernel) (fun _ _ _ h => h) (Or.inr ⟨by rfl, rfl⟩) ?_; try simp only [Act.put, List.setIfInBounds_toArray, List.set_cons_zero, List.set_cons_succ]) | skip); (first | (refine takeT 7 (v := ?_) rfl (by decide +kernel) (by decide +kernel) (by decide +kernel) (fun _ _ _ h => h) (by decide +kernel) (Or.inl ⟨by rfl, ?_⟩) ?_; rotate_left 1; (focus (intro W hW; have hcW := hW.at; (try dsimp only at hcW); go_simp; first | done | with_reducible rfl)); try simp only [Act.put, List.setIfInBounds_toArray, List.set_cons_zero, List.set_cons_succ]) | (refine takeW 7 (v := ?_) rfl (by decide +kernel) (by decide +kernel) (by decide +kernel) (fun _ _ _ h => h) (Or.inl ⟨by rfl, ?_⟩) ?_; rotate_left 1; (focus (intro W hW; go_simp; first | done | with_reducible rfl)); try simp only [Act.put, List.setIfInBounds_toArray, List.set_cons_zero, List.set_cons_succ]) | (refine takeW 7 rfl (by decide +kernel) (by decide +kernel) (by decide +kernel) (fun _ _ _ h => h) (Or.inr ⟨by rfl, rfl⟩) ?_; try simp only [Act.put, List.setIfInBounds_toArray, List.set_cons_zero, List.set_cons_succ]) | skip))
        refine stepTA [8] (by decide +kernel) (by decide) ?_
        intro i hi
        obtain rfl : i = 8 := by simpa using hi
        clear hi
        refine ⟨_, rfl, by rfl, ?_⟩
        intro K hK
        go_simp
        have bb := (Below.refl v2.heap.size v2).alloc (Nat.le_refl _) (.cells #[.bool false, .slice none 0 0] 39)
        refine hK _ _ (.inr (fun a ha => bb.cell (by rw [ha]; exact Nat.lt_of_lt_of_le hb5 hW.size))) ?_
        have h8 := Lib.hid (heap_alloc_new v2 (.cells #[.bool false, .slice none 0 0] 39))
        have lh8 := hW.size
        replace h3 := Lib.hid ((h3.out.below bb).more bb.size)
        replace na := Lib.hid (na.out.below bb)
        replace nb := Lib.hid (nb.out.below bb)
        replace hW := hW.trans (bb.mono hW.size)
        clear hK K bb
        try simp only [Act.put, List.setIfInBounds_toArray, List.set_cons_zero, List.set_cons_succ]
        generalize v2.alloc (.cells #[.bool false, .slice none 0 0] 39) = v3 at hW h3 na nb h8 ⊢
        generalize v2.heap.size = g8 at h8 lh8 ⊢
        have h5 := (hW.block _ hb5).trans hb.out
        have n58 := block_ne h5 h8.out (by decide)
        have hwW := hw0.out.trans (hW.mono hw0.out.size)
        have d0 := block_at h5 (i := 0) (v := .bool false) rfl
        have d1 := block_at h5 (i := 1) (v := .slice (some ⟨g, 0, none⟩) ps.length ps.length) rfl
        have f0 := block_free h5 0
        have f1 := block_free h5 1
        replace h5 := Lib.hid h5
        refine stepT 9 rfl (by decide +kernel) (by rfl) ?_
        intro K hK
        go_simp
        have hg5 := grown_trans (grown_setCell v3 ⟨b5, 0, none⟩ (.bool y.st)) (grown_setCell (v3.setCell ⟨b5, 0, none⟩ (.bool y.st)) ⟨b5, 1, none⟩ (.slice (some ⟨ga, 0, none⟩) y.left.length y.left.length))
        refine hK _ _ (.inl (by decide)) ?_
        replace h8 := Lib.hid (block_grown h8.out hg5 (fun e => n58 (Option.some.inj e).symm))
        replace na := Lib.hid (na.out.stores2 h5.out (by decide) (by decide) (.bool y.st) (.slice (some ⟨ga, 0, none⟩) y.left.length y.left.length))
        replace nb := Lib.hid (nb.out.stores2 h5.out (by decide) (by decide) (.bool y.st) (.slice (some ⟨ga, 0, none⟩) y.left.length y.left.length))
        replace h5 : Hid (((v3.setCell ⟨b5, 0, none⟩ (.bool y.st)).setCell ⟨b5, 1, none⟩ (.slice (some ⟨ga, 0, none⟩) y.left.length y.left.length)).heap[b5]? = _) := set2 h5.out (.bool y.st) (.slice (some ⟨ga, 0, none⟩) y.left.length y.left.length)
        replace hwW := below2 hwW hge5 (.bool y.st) (.slice (some ⟨ga, 0, none⟩) y.left.length y.left.length)
        clear hK K hg5 d0 d1 f0 f1
        try simp only [Act.put, List.setIfInBounds_toArray, List.set_cons_zero, List.set_cons_succ]
        generalize ((v3.setCell ⟨b5, 0, none⟩ (.bool y.st)).setCell ⟨b5, 1, none⟩ (.slice (some ⟨ga, 0, none⟩) y.left.length y.left.length)) = wx at h5 h8 na nb hwW ⊢
        have d0 := block_at h8.out (i := 0) (v := .bool false) rfl
        have d1 := block_at h8.out (i := 1) (v := .slice none 0 0) rfl
        have f0 := block_free h8.out 0
        have f1 := block_free h8.out 1
        refine stepT 10 rfl (by decide +kernel) (by rfl) ?_
        intro K hK
        go_simp
        have hg8 := grown_trans (grown_setCell wx ⟨g8, 0, none⟩ (.bool y.rt)) (grown_setCell (wx.setCell ⟨g8, 0, none⟩ (.bool y.rt)) ⟨g8, 1, none⟩ (.slice (some ⟨gb, 0, none⟩) y.got.length y.got.length))
        refine hK _ _ (.inr fun a ha => World.cell?_of_block (hg8.block _ (by rw [ha]; exact block_lt h5.out) (by rw [ha]; exact fun e => n58 (Option.some.inj e)))) ?_
        replace h5 := Lib.hid (block_grown h5.out hg8 (fun e => n58 (Option.some.inj e)))
        replace na := Lib.hid (na.out.stores2 h8.out (by decide) (by decide) (.bool y.rt) (.slice (some ⟨gb, 0, none⟩) y.got.length y.got.length))
        replace nb := Lib.hid (nb.out.stores2 h8.out (by decide) (by decide) (.bool y.rt) (.slice (some ⟨gb, 0, none⟩) y.got.length y.got.length))
        replace h8 : Hid (((wx.setCell ⟨g8, 0, none⟩ (.bool y.rt)).setCell ⟨g8, 1, none⟩ (.slice (some ⟨gb, 0, none⟩) y.got.length y.got.length)).heap[g8]? = _) := set2 h8.out (.bool y.rt) (.slice (some ⟨gb, 0, none⟩) y.got.length y.got.length)
        replace hwW := below2 hwW (Nat.le_trans hw0.out.size lh8) (.bool y.rt) (.slice (some ⟨gb, 0, none⟩) y.got.length y.got.length)
        clear hK K hg8 d0 d1 f0 f1
        refine doneT (by kernel_rfl) ?_
        exact ⟨g8, ga, gb, _, _, _, _, _, _, _, _, rfl, hwW, h5.out, h8.out, na.out, nb.out, Nat.le_trans hw0.out.size lh8⟩
      · clear hi
        refine ⟨_, rfl, by rfl, ?_⟩
        intro K hK
        go_simp
        have bb := (Below.refl v1.heap.size v1).alloc (Nat.le_refl _) (.cells #[.bool false, .slice none 0 0] 39)
        refine hK _ _ (.inr (fun a ha => bb.cell (by rw [ha]; exact Nat.lt_of_lt_of_le hb5 hW.size))) ?_
        have h8 := Lib.hid (heap_alloc_new v1 (.cells #[.bool false, .slice none 0 0] 39))
        have lh8 := hW.size
        replace h3 := Lib.hid ((h3.out.below bb).more bb.size)
        replace hW := hW.trans (bb.mono hW.size)
        clear hK K bb
        try simp only [Act.put, List.setIfInBounds_toArray, List.set_cons_zero, List.set_cons_succ]
        generalize v1.alloc (.cells #[.bool false, .slice none 0 0] 39) = v4 at hW h3 h8 ⊢
        generalize v1.heap.size = g8 at h8 lh8 ⊢
        refine stepTA [4] (by decide +kernel) (by decide) ?_
        intro i hi
        obtain rfl : i = 4 := by simpa using hi
        clear hi
        refine ⟨_, rfl, by rfl, ?_⟩
        intro K hK
        go_simp
        refine (KR.out v4 _ _ _ _ ((n0.out.rds hsm.out).below hW |>.more hW.size) h3.out).mono ?_
        rintro e v5 ⟨ga, gb, rfl, na, nb, bb⟩
        replace na := Lib.hid (na.mono (base' := w.heap.size) (Nat.le_trans hw0.out.size hW.size))
        replace nb := Lib.hid (nb.mono (base' := w.heap.size) (Nat.le_trans hw0.out.size hW.size))
        refine hK _ _ (.inr (fun a ha => bb.cell (by rw [ha]; exact Nat.lt_of_lt_of_le hb5 hW.size))) ?_
        replace h3 := Lib.hid ((h3.out.below bb).more bb.size)
        replace h8 := Lib.hid ((bb.block _ (block_lt h8.out)).trans h8.out)
        replace hW := hW.trans (bb.mono hW.size)
        clear hK K bb
        try simp only [Act.put, List.setIfInBounds_toArray, List.set_cons_zero, List.set_cons_succ]
        ((first | (refine takeT 5 (v := ?_) rfl (by decide +kernel) (by decide +kernel) (by decide +kernel) (fun _ _ _ h => h) (by decide +kernel) (Or.inl ⟨by rfl, ?_⟩) ?_; rotate_left 1; (focus (intro W hW; have hcW := hW.at; (try dsimp only at hcW); go_simp; first | done | with_reducible rfl)); try simp only [Act.put, List.setIfInBounds_toArray, List.set_cons_zero, List.set_cons_succ]) | (refine takeW 5 (v := ?_) rfl (by decide +kernel) (by decide +kernel) (by decide +kernel) (fun _ _ _ h => h) (Or.inl ⟨by rfl, ?_⟩) ?_; rotate_left 1; (focus (intro W hW; go_simp; first | done | with_reducible rfl)); try simp only [Act.put, List.setIfInBounds_toArray, List.set_cons_zero, List.set_cons_succ]) | (refine takeW 5 rfl (by decide +kernel) (by decide +kernel) (by decide +kernel) (fun _ _ _ h => h) (Or.inr ⟨by rfl, rfl⟩) ?_; try simp only [Act.put, List.setIfInBounds_toArray, List.set_cons_zero, List.set_cons_succ]) | skip); (first | (refine takeT 6 (v := ?_) rfl (by decide +kernel) (by decide +kernel) (by decide +kernel) (fun _ _ _ h => h) (by decide +kernel) (Or.inl ⟨by rfl, ?_⟩) ?_; rotate_left 1; (focus (intro W hW; have hcW := hW.at; (try dsimp only at hcW); go_simp; first | done | with_reducible rfl)); try simp only [Act.put, List.setIfInBounds_toArray, List.set_cons_zero, List.set_cons_succ]) | (refine takeW 6 (v := ?_) rfl (by decide +kernel) (by decide +kernel) (by decide +kernel) (fun _ _ _ h => h) (Or.inl ⟨by rfl, ?_⟩) ?_; rotate_left 1; (focus (intro W hW; go_simp; first | done | with_reducible rfl)); try simp only [Act.put, List.setIfInBounds_toArray, List.set_cons_zero, List.set_cons_succ]) | (refine takeW 6 rfl (by decide +kernel) (by decide +kernel) (by decide +kernel) (fun _ _ _ h => h) (Or.inr ⟨by rfl, rfl⟩) ?_; try simp only [Act.put, List.setIfInBounds_toArray, List.set_cons_zero, List.set_cons_succ]) | skip); (first | (refine takeT 7 (v := ?_) rfl (by decide +kernel) (by decide +kernel) (by decide +kernel) (fun _ _ _ h => h) (by decide +kernel) (Or.inl ⟨by rfl, ?_⟩) ?_; rotate_left 1; (focus (intro W hW; have hcW := hW.at; (try dsimp only at hcW); go_simp; first | done | with_reducible rfl)); try simp only [Act.put, List.setIfInBounds_toArray, List.set_cons_zero, List.set_cons_succ]) | (refine takeW 7 (v := ?_) rfl (by decide +kernel) (by decide +kernel) (by decide +kernel) (fun _ _ _ h => h) (Or.inl ⟨by rfl, ?_⟩) ?_; rotate_left 1; (focus (intro W hW; go_simp; first | done | with_reducible rfl)); try simp only [Act.put, List.setIfInBounds_toArray, List.set_cons_zero, List.set_cons_succ]) | (refine takeW 7 rfl (by decide +kernel) (by decide +kernel) (by decide +kernel) (fun _ _ _ h => h) (Or.inr ⟨by rfl, rfl⟩) ?_; try simp only [Act.put, List.setIfInBounds_toArray, List.set_cons_zero, List.set_cons_succ]) | skip))
        have h5 := (hW.block _ hb5).trans hb.out
        have n58 := block_ne h5 h8.out (by decide)
        have hwW := hw0.out.trans (hW.mono hw0.out.size)
        have d0 := block_at h5 (i := 0) (v := .bool false) rfl
        have d1 := block_at h5 (i := 1) (v := .slice (some ⟨g, 0, none⟩) ps.length ps.length) rfl
        have f0 := block_free h5 0
        have f1 := block_free h5 1
        replace h5 := Lib.hid h5
        refine stepT 9 rfl (by decide +kernel) (by rfl) ?_
        intro K hK
        go_simp
        have hg5 := grown_trans (grown_setCell v5 ⟨b5, 0, none⟩ (.bool y.st)) (grown_setCell (v5.setCell ⟨b5, 0, none⟩ (.bool y.st)) ⟨b5, 1, none⟩ (.slice (some ⟨ga, 0, none⟩) y.left.length y.left.length))
        refine hK _ _ (.inl (by decide)) ?_
        replace h8 := Lib.hid (block_grown h8.out hg5 (fun e => n58 (Option.some.inj e).symm))
        replace na := Lib.hid (na.out.stores2 h5.out (by decide) (by decide) (.bool y.st) (.slice (some ⟨ga, 0, none⟩) y.left.length y.left.length))
        replace nb := Lib.hid (nb.out.stores2 h5.out (by decide) (by decide) (.bool y.st) (.slice (some ⟨ga, 0, none⟩) y.left.length y.left.length))
        replace h5 : Hid (((v5.setCell ⟨b5, 0, none⟩ (.bool y.st)).setCell ⟨b5, 1, none⟩ (.slice (some ⟨ga, 0, none⟩) y.left.length y.left.length)).heap[b5]? = _) := set2 h5.out (.bool y.st) (.slice (some ⟨ga, 0, none⟩) y.left.length y.left.length)
        replace hwW := below2 hwW hge5 (.bool y.st) (.slice (some ⟨ga, 0, none⟩) y.left.length y.left.length)
        clear hK K hg5 d0 d1 f0 f1
        try simp only [Act.put, List.setIfInBounds_toArray, List.set_cons_zero, List.set_cons_succ]
        generalize ((v5.setCell ⟨b5, 0, none⟩ (.bool y.st)).setCell ⟨b5, 1, none⟩ (.slice (some ⟨ga, 0, none⟩) y.left.length y.left.length)) = wx at h5 h8 na nb hwW ⊢
        have d0 := block_at h8.out (i := 0) (v := .bool false) rfl
        have d1 := block_at h8.out (i := 1) (v := .slice none 0 0) rfl
        have f0 := block_free h8.out 0
        have f1 := block_free h8.out 1
        refine stepT 10 rfl (by decide +kernel) (by rfl) ?_
        intro K hK
        go_simp
        have hg8 := grown_trans (grown_setCell wx ⟨g8, 0, none⟩ (.bool y.rt)) (grown_setCell (wx.setCell ⟨g8, 0, none⟩ (.bool y.rt)) ⟨g8, 1, none⟩ (.slice (some ⟨gb, 0, none⟩) y.got.length y.got.length))
        refine hK _ _ (.inr fun a ha => World.cell?_of_block (hg8.block _ (by rw [ha]; exact block_lt h5.out) (by rw [ha]; exact fun e => n58 (Option.some.inj e)))) ?_
        replace h5 := Lib.hid (block_grown h5.out hg8 (fun e => n58 (Option.some.inj e)))
        replace na := Lib.hid (na.out.stores2 h8.out (by decide) (by decide) (.bool y.rt) (.slice (some ⟨gb, 0, none⟩) y.got.length y.got.length))
        replace nb := Lib.hid (nb.out.stores2 h8.out (by decide) (by decide) (.bool y.rt) (.slice (some ⟨gb, 0, none⟩) y.got.length y.got.length))
        replace h8 : Hid (((wx.setCell ⟨g8, 0, none⟩ (.bool y.rt)).setCell ⟨g8, 1, none⟩ (.slice (some ⟨gb, 0, none⟩) y.got.length y.got.length)).heap[g8]? = _) := set2 h8.out (.bool y.rt) (.slice (some ⟨gb, 0, none⟩) y.got.length y.got.length)
        replace hwW := below2 hwW (Nat.le_trans hw0.out.size lh8) (.bool y.rt) (.slice (some ⟨gb, 0, none⟩) y.got.length y.got.length)
        clear hK K hg8 d0 d1 f0 f1
        refine doneT (by kernel_rfl) ?_
        exact ⟨g8, ga, gb, _, _, _, _, _, _, _, _, rfl, hwW, h5.out, h8.out, na.out, nb.out, Nat.le_trans hw0.out.size lh8⟩
    · clear hi
      refine ⟨_, rfl, by rfl, ?_⟩
      intro K hK
      go_simp
      have bb := (Below.refl v0.heap.size v0).alloc (Nat.le_refl _) (.cells #[.bool false, .slice none 0 0] 39)
      refine hK _ _ (.inr (fun a ha => bb.cell (by rw [ha]; exact Nat.lt_of_lt_of_le hb5 hW.size))) ?_
      have h8 := Lib.hid (heap_alloc_new v0 (.cells #[.bool false, .slice none 0 0] 39))
      have lh8 := hW.size
      replace hW := hW.trans (bb.mono hW.size)
      clear hK K bb
      try simp only [Act.put, List.setIfInBounds_toArray, List.set_cons_zero, List.set_cons_succ]
      generalize v0.alloc (.cells #[.bool false, .slice none 0 0] 39) = v6 at hW h8 ⊢
      generalize v0.heap.size = g8 at h8 lh8 ⊢
      refine stepTA [3] (by decide +kernel) (by decide) ?_
      intro i hi
      obtain rfl : i = 3 := by simpa using hi
      clear hi
      refine ⟨_, rfl, by rfl, ?_⟩
      intro K hK
      go_simp
      refine (KX.out v6 A2 c2 (H2.out.below hW |>.more hW.size)).mono ?_
      rintro e v7 ⟨A3, c3, rfl, h3, bb⟩
      replace h3 := Lib.hid h3
      refine hK _ _ (.inr (fun a ha => bb.cell (by rw [ha]; exact Nat.lt_of_lt_of_le hb5 hW.size))) ?_
      replace h8 := Lib.hid ((bb.block _ (block_lt h8.out)).trans h8.out)
      replace hW := hW.trans (bb.mono hW.size)
      clear hK K bb
      try simp only [Act.put, List.setIfInBounds_toArray, List.set_cons_zero, List.set_cons_succ]
      refine stepTA [4] (by decide +kernel) (by decide) ?_
      intro i hi
      obtain rfl : i = 4 := by simpa using hi
      clear hi
      refine ⟨_, rfl, by rfl, ?_⟩
      intro K hK
      go_simp
      refine (KR.out v7 _ _ _ _ ((n0.out.rds hsm.out).below hW |>.more hW.size) h3.out).mono ?_
      rintro e v8 ⟨ga, gb, rfl, na, nb, bb⟩
      replace na := Lib.hid (na.mono (base' := w.heap.size) (Nat.le_trans hw0.out.size hW.size))
      replace nb := Lib.hid (nb.mono (base' := w.heap.size) (Nat.le_trans hw0.out.size hW.size))
      refine hK _ _ (.inr (fun a ha => bb.cell (by rw [ha]; exact Nat.lt_of_lt_of_le hb5 hW.size))) ?_
      replace h8 := Lib.hid ((bb.block _ (block_lt h8.out)).trans h8.out)
      replace h3 := Lib.hid ((h3.out.below bb).more bb.size)
      replace hW := hW.trans (bb.mono hW.size)
      clear hK K bb
      try simp only [Act.put, List.setIfInBounds_toArray, List.set_cons_zero, List.set_cons_succ]
      ((first | (refine takeT 5 (v := ?_) rfl (by decide +kernel) (by decide +kernel) (by decide +kernel) (fun _ _ _ h => h) (by decide +kernel) (Or.inl ⟨by rfl, ?_⟩) ?_; rotate_left 1; (focus (intro W hW; have hcW := hW.at; (try dsimp only at hcW); go_simp; first | done | with_reducible rfl)); try simp only [Act.put, List.setIfInBounds_toArray, List.set_cons_zero, List.set_cons_succ]) | (refine takeW 5 (v := ?_) rfl (by decide +kernel) (by decide +kernel) (by decide +kernel) (fun _ _ _ h => h) (Or.inl ⟨by rfl, ?_⟩) ?_; rotate_left 1; (focus (intro W hW; go_simp; first | done | with_reducible rfl)); try simp only [Act.put, List.setIfInBounds_toArray, List.set_cons_zero, List.set_cons_succ]) | (refine takeW 5 rfl (by decide +kernel) (by decide +kernel) (by decide +kernel) (fun _ _ _ h => h) (Or.inr ⟨by rfl, rfl⟩) ?_; try simp only [Act.put, List.setIfInBounds_toArray, List.set_cons_zero, List.set_cons_succ]) | skip); (first | (refine takeT 6 (v := ?_) rfl (by decide +kernel) (by decide +kernel) (by decide +kernel) (fun _ _ _ h => h) (by decide +kernel) (Or.inl ⟨by rfl, ?_⟩) ?_; rotate_left 1; (focus (intro W hW; have hcW := hW.at; (try dsimp only at hcW); go_simp; first | done | with_reducible rfl)); try simp only [Act.put, List.setIfInBounds_toArray, List.set_cons_zero, List.set_cons_succ]) | (refine takeW 6 (v := ?_) rfl (by decide +kernel) (by decide +kernel) (by decide +kernel) (fun _ _ _ h => h) (Or.inl ⟨by rfl, ?_⟩) ?_; rotate_left 1; (focus (intro W hW; go_simp; first | done | with_reducible rfl)); try simp only [Act.put, List.setIfInBounds_toArray, List.set_cons_zero, List.set_cons_succ]) | (refine takeW 6 rfl (by decide +kernel) (by decide +kernel) (by decide +kernel) (fun _ _ _ h => h) (Or.inr ⟨by rfl, rfl⟩) ?_; try simp only [Act.put, List.setIfInBounds_toArray, List.set_cons_zero, List.set_cons_succ]) | skip); (first | (refine takeT 7 (v := ?_) rfl (by decide +kernel) (by decide +kernel) (by decide +kernel) (fun _ _ _ h => h) (by decide +kernel) (Or.inl ⟨by rfl, ?_⟩) ?_; rotate_left 1; (focus (intro W hW; have hcW := hW.at; (try dsimp only at hcW); go_simp; first | done | with_reducible rfl)); try simp only [Act.put, List.setIfInBounds_toArray, List.set_cons_zero, List.set_cons_succ]) | (refine takeW 7 (v := ?_) rfl (by decide +kernel) (by decide +kernel) (by decide +kernel) (fun _ _ _ h => h) (Or.inl ⟨by rfl, ?_⟩) ?_; rotate_left 1; (focus (intro W hW; go_simp; first | done | with_reducible rfl)); try simp only [Act.put, List.setIfInBounds_toArray, List.set_cons_zero, List.set_cons_succ]) | (refine takeW 7 rfl (by decide +kernel) (by decide +kernel) (by decide +kernel) (fun _ _ _ h => h) (Or.inr ⟨by rfl, rfl⟩) ?_; try simp only [Act.put, List.setIfInBounds_toArray, List.set_cons_zero, List.set_cons_succ]) | skip))
      have h5 := (hW.block _ hb5).trans hb.out
      have n58 := block_ne h5 h8.out (by decide)
      have hwW := hw0.out.trans (hW.mono hw0.out.size)
      have d0 := block_at h5 (i := 0) (v := .bool false) rfl
      have d1 := block_at h5 (i := 1) (v := .slice (some ⟨g, 0, none⟩) ps.length ps.length) rfl
      have f0 := block_free h5 0
      have f1 := block_free h5 1
      replace h5 := Lib.hid h5
      refine stepT 9 rfl (by decide +kernel) (by rfl) ?_
      intro K hK
      go_simp
      have hg5 := grown_trans (grown_setCell v8 ⟨b5, 0, none⟩ (.bool y.st)) (grown_setCell (v8.setCell ⟨b5, 0, none⟩ (.bool y.st)) ⟨b5, 1, none⟩ (.slice (some ⟨ga, 0, none⟩) y.left.length y.left.length))
      refine hK _ _ (.inl (by decide)) ?_
      replace h8 := Lib.hid (block_grown h8.out hg5 (fun e => n58 (Option.some.inj e).symm))
      replace na := Lib.hid (na.out.stores2 h5.out (by decide) (by decide) (.bool y.st) (.slice (some ⟨ga, 0, none⟩) y.left.length y.left.length))
      replace nb := Lib.hid (nb.out.stores2 h5.out (by decide) (by decide) (.bool y.st) (.slice (some ⟨ga, 0, none⟩) y.left.length y.left.length))
      replace h5 : Hid (((v8.setCell ⟨b5, 0, none⟩ (.bool y.st)).setCell ⟨b5, 1, none⟩ (.slice (some ⟨ga, 0, none⟩) y.left.length y.left.length)).heap[b5]? = _) := set2 h5.out (.bool y.st) (.slice (some ⟨ga, 0, none⟩) y.left.length y.left.length)
      replace hwW := below2 hwW hge5 (.bool y.st) (.slice (some ⟨ga, 0, none⟩) y.left.length y.left.length)
      clear hK K hg5 d0 d1 f0 f1
      try simp only [Act.put, List.setIfInBounds_toArray, List.set_cons_zero, List.set_cons_succ]
      generalize ((v8.setCell ⟨b5, 0, none⟩ (.bool y.st)).setCell ⟨b5, 1, none⟩ (.slice (some ⟨ga, 0, none⟩) y.left.length y.left.length)) = wx at h5 h8 na nb hwW ⊢
      have d0 := block_at h8.out (i := 0) (v := .bool false) rfl
      have d1 := block_at h8.out (i := 1) (v := .slice none 0 0) rfl
      have f0 := block_free h8.out 0
      have f1 := block_free h8.out 1
      refine stepT 10 rfl (by decide +kernel) (by rfl) ?_
      intro K hK
      go_simp
      have hg8 := grown_trans (grown_setCell wx ⟨g8, 0, none⟩ (.bool y.rt)) (grown_setCell (wx.setCell ⟨g8, 0, none⟩ (.bool y.rt)) ⟨g8, 1, none⟩ (.slice (some ⟨gb, 0, none⟩) y.got.length y.got.length))
      refine hK _ _ (.inr fun a ha => World.cell?_of_block (hg8.block _ (by rw [ha]; exact block_lt h5.out) (by rw [ha]; exact fun e => n58 (Option.some.inj e)))) ?_
      replace h5 := Lib.hid (block_grown h5.out hg8 (fun e => n58 (Option.some.inj e)))
      replace na := Lib.hid (na.out.stores2 h8.out (by decide) (by decide) (.bool y.rt) (.slice (some ⟨gb, 0, none⟩) y.got.length y.got.length))
      replace nb := Lib.hid (nb.out.stores2 h8.out (by decide) (by decide) (.bool y.rt) (.slice (some ⟨gb, 0, none⟩) y.got.length y.got.length))
      replace h8 : Hid (((wx.setCell ⟨g8, 0, none⟩ (.bool y.rt)).setCell ⟨g8, 1, none⟩ (.slice (some ⟨gb, 0, none⟩) y.got.length y.got.length)).heap[g8]? = _) := set2 h8.out (.bool y.rt) (.slice (some ⟨gb, 0, none⟩) y.got.length y.got.length)
      replace hwW := below2 hwW (Nat.le_trans hw0.out.size lh8) (.bool y.rt) (.slice (some ⟨gb, 0, none⟩) y.got.length y.got.length)
      clear hK K hg8 d0 d1 f0 f1
      refine doneT (by kernel_rfl) ?_
      exact ⟨g8, ga, gb, _, _, _, _, _, _, _, _, rfl, hwW, h5.out, h8.out, na.out, nb.out, Nat.le_trans hw0.out.size lh8⟩
    -- end of tree
  · rintro act w2 ⟨g8, ga, gb, v26, v27, v28, v29, v30, v25, v31, v32, rfl, hW, h5, h8, na, nb, hge8⟩
    have hge := hge5
    clear hb hb5 hw0 n0 H2 hge5 KR KX KN KS
    clear W0
    have hnum := hinv.numbers
    obtain ⟨m1, m2, m3, m4, m5, m6⟩ := hnum
    have e0 := block_at h5 (i := 0) (v := .bool y.st) rfl
    have e1 := block_at h5 (i := 1) (v := .slice (some ⟨ga, 0, none⟩) y.left.length y.left.length) rfl
    have e2 := block_at h8 (i := 0) (v := .bool y.rt) rfl
    have e3 := block_at h8 (i := 1) (v := .slice (some ⟨gb, 0, none⟩) y.got.length y.got.length) rfl
    have hb5 := block_lt h5
    have hb8 := block_lt h8
    replace h5 := Lib.hid h5
    replace h8 := Lib.hid h8
    replace na := Lib.hid na
    replace nb := Lib.hid nb
    obtain ⟨dn, hdn⟩ : ∃ dn, ps.length = y.left.length + dn := ⟨ps.length - y.left.length, by omega⟩
    have hwr : IntKind.i64.wrap ((ps.length : Int) - (y.left.length : Int)) = (dn : Int) := by simp only [IntKind.wrap_i64]; omega
    have hdd : ps.length - y.left.length = dn := by omega
    rw [hdd] at m2 m3 m6
    replace hdn := Lib.hid hdn
    replace m5 := Lib.hid m5
    replace m6 := Lib.hid m6
    have hW3 := Lib.hid hW
    have H3 := Lib.hid (H1.out.below hW)
    clear hdd hW
    go_wp2
    refine startT (S := fun a => a.block = b5 ∨ a.block = g8) (T := []) 11 (by kernel_rfl) rfl (l := #[false, false, false, false, false, false, false, false, false, false, false]) rfl ?_
    ((first | (refine takeT 0 (v := ?_) rfl (by decide +kernel) (by decide +kernel) (by decide +kernel) (fun _ _ _ h => h) (by decide +kernel) (Or.inl ⟨by rfl, ?_⟩) ?_; rotate_left 1; (focus (intro W hW; have hcW := hW.at; (try dsimp only at hcW); go_simp; first | done | with_reducible rfl)); try simp only [Act.put, List.setIfInBounds_toArray, List.set_cons_zero, List.set_cons_succ]) | (refine takeW 0 (v := ?_) rfl (by decide +kernel) (by decide +kernel) (by decide +kernel) (fun _ _ _ h => h) (Or.inl ⟨by rfl, ?_⟩) ?_; rotate_left 1; (focus (intro W hW; go_simp; first | done | with_reducible rfl)); try simp only [Act.put, List.setIfInBounds_toArray, List.set_cons_zero, List.set_cons_succ]) | (refine takeW 0 rfl (by decide +kernel) (by decide +kernel) (by decide +kernel) (fun _ _ _ h => h) (Or.inr ⟨by rfl, rfl⟩) ?_; try simp only [Act.put, List.setIfInBounds_toArray, List.set_cons_zero, List.set_cons_succ]) | skip); (first | (refine takeT 1 (v := ?_) rfl (by decide +kernel) (by decide +kernel) (by decide +kernel) (fun _ _ _ h => h) (by decide +kernel) (Or.inl ⟨by rfl, ?_⟩) ?_; rotate_left 1; (focus (intro W hW; have hcW := hW.at; (try dsimp only at hcW); go_simp; first | done | with_reducible rfl)); try simp only [Act.put, List.setIfInBounds_toArray, List.set_cons_zero, List.set_cons_succ]) | (refine takeW 1 (v := ?_) rfl (by decide +kernel) (by decide +kernel) (by decide +kernel) (fun _ _ _ h => h) (Or.inl ⟨by rfl, ?_⟩) ?_; rotate_left 1; (focus (intro W hW; go_simp; first | done | with_reducible rfl)); try simp only [Act.put, List.setIfInBounds_toArray, List.set_cons_zero, List.set_cons_succ]) | (refine takeW 1 rfl (by decide +kernel) (by decide +kernel) (by decide +kernel) (fun _ _ _ h => h) (Or.inr ⟨by rfl, rfl⟩) ?_; try simp only [Act.put, List.setIfInBounds_toArray, List.set_cons_zero, List.set_cons_succ]) | skip); (first | (refine takeT 2 (v := ?_) rfl (by decide +kernel) (by decide +kernel) (by decide +kernel) (fun _ _ _ h => h) (by decide +kernel) (Or.inl ⟨by rfl, ?_⟩) ?_; rotate_left 1; (focus (intro W hW; have hcW := hW.at; (try dsimp only at hcW); go_simp; first | done | with_reducible rfl)); try simp only [Act.put, List.setIfInBounds_toArray, List.set_cons_zero, List.set_cons_succ]) | (refine takeW 2 (v := ?_) rfl (by decide +kernel) (by decide +kernel) (by decide +kernel) (fun _ _ _ h => h) (Or.inl ⟨by rfl, ?_⟩) ?_; rotate_left 1; (focus (intro W hW; go_simp; first | done | with_reducible rfl)); try simp only [Act.put, List.setIfInBounds_toArray, List.set_cons_zero, List.set_cons_succ]) | (refine takeW 2 rfl (by decide +kernel) (by decide +kernel) (by decide +kernel) (fun _ _ _ h => h) (Or.inr ⟨by rfl, rfl⟩) ?_; try simp only [Act.put, List.setIfInBounds_toArray, List.set_cons_zero, List.set_cons_succ]) | skip); (first | (refine takeT 3 (v := ?_) rfl (by decide +kernel) (by decide +kernel) (by decide +kernel) (fun _ _ _ h => h) (by decide +kernel) (Or.inl ⟨by rfl, ?_⟩) ?_; rotate_left 1; (focus (intro W hW; have hcW := hW.at; (try dsimp only at hcW); go_simp; first | done | with_reducible rfl)); try simp only [Act.put, List.setIfInBounds_toArray, List.set_cons_zero, List.set_cons_succ]) | (refine takeW 3 (v := ?_) rfl (by decide +kernel) (by decide +kernel) (by decide +kernel) (fun _ _ _ h => h) (Or.inl ⟨by rfl, ?_⟩) ?_; rotate_left 1; (focus (intro W hW; go_simp; first | done | with_reducible rfl)); try simp only [Act.put, List.setIfInBounds_toArray, List.set_cons_zero, List.set_cons_succ]) | (refine takeW 3 rfl (by decide +kernel) (by decide +kernel) (by decide +kernel) (fun _ _ _ h => h) (Or.inr ⟨by rfl, rfl⟩) ?_; try simp only [Act.put, List.setIfInBounds_toArray, List.set_cons_zero, List.set_cons_succ]) | skip); (first | (refine takeT 4 (v := ?_) rfl (by decide +kernel) (by decide +kernel) (by decide +kernel) (fun _ _ _ h => h) (by decide +kernel) (Or.inl ⟨by rfl, ?_⟩) ?_; rotate_left 1; (focus (intro W hW; have hcW := hW.at; (try dsimp only at hcW); go_simp; first | done | with_reducible rfl)); try simp only [Act.put, List.setIfInBounds_toArray, List.set_cons_zero, List.set_cons_succ]) | (refine takeW 4 (v := ?_) rfl (by decide +kernel) (by decide +kernel) (by decide +kernel) (fun _ _ _ h => h) (Or.inl ⟨by rfl, ?_⟩) ?_; rotate_left 1; (focus (intro W hW; go_simp; first | done | with_reducible rfl)); try simp only [Act.put, List.setIfInBounds_toArray, List.set_cons_zero, List.set_cons_succ]) | (refine takeW 4 rfl (by decide +kernel) (by decide +kernel) (by decide +kernel) (fun _ _ _ h => h) (Or.inr ⟨by rfl, rfl⟩) ?_; try simp only [Act.put, List.setIfInBounds_toArray, List.set_cons_zero, List.set_cons_succ]) | skip); (first | (refine takeT 5 (v := ?_) rfl (by decide +kernel) (by decide +kernel) (by decide +kernel) (fun _ _ _ h => h) (by decide +kernel) (Or.inl ⟨by rfl, ?_⟩) ?_; rotate_left 1; (focus (intro W hW; have hcW := hW.at; (try dsimp only at hcW); go_simp; first | done | with_reducible rfl)); try simp only [Act.put, List.setIfInBounds_toArray, List.set_cons_zero, List.set_cons_succ]) | (refine takeW 5 (v := ?_) rfl (by decide +kernel) (by decide +kernel) (by decide +kernel) (fun _ _ _ h => h) (Or.inl ⟨by rfl, ?_⟩) ?_; rotate_left 1; (focus (intro W hW; go_simp; first | done | with_reducible rfl)); try simp only [Act.put, List.setIfInBounds_toArray, List.set_cons_zero, List.set_cons_succ]) | (refine takeW 5 rfl (by decide +kernel) (by decide +kernel) (by decide +kernel) (fun _ _ _ h => h) (Or.inr ⟨by rfl, rfl⟩) ?_; try simp only [Act.put, List.setIfInBounds_toArray, List.set_cons_zero, List.set_cons_succ]) | skip); (first | (refine takeT 6 (v := ?_) rfl (by decide +kernel) (by decide +kernel) (by decide +kernel) (fun _ _ _ h => h) (by decide +kernel) (Or.inl ⟨by rfl, ?_⟩) ?_; rotate_left 1; (focus (intro W hW; have hcW := hW.at; (try dsimp only at hcW); go_simp; first | done | with_reducible rfl)); try simp only [Act.put, List.setIfInBounds_toArray, List.set_cons_zero, List.set_cons_succ]) | (refine takeW 6 (v := ?_) rfl (by decide +kernel) (by decide +kernel) (by decide +kernel) (fun _ _ _ h => h) (Or.inl ⟨by rfl, ?_⟩) ?_; rotate_left 1; (focus (intro W hW; go_simp; first | done | with_reducible rfl)); try simp only [Act.put, List.setIfInBounds_toArray, List.set_cons_zero, List.set_cons_succ]) | (refine takeW 6 rfl (by decide +kernel) (by decide +kernel) (by decide +kernel) (fun _ _ _ h => h) (Or.inr ⟨by rfl, rfl⟩) ?_; try simp only [Act.put, List.setIfInBounds_toArray, List.set_cons_zero, List.set_cons_succ]) | skip); (first | (refine takeT 7 (v := ?_) rfl (by decide +kernel) (by decide +kernel) (by decide +kernel) (fun _ _ _ h => h) (by decide +kernel) (Or.inl ⟨by rfl, ?_⟩) ?_; rotate_left 1; (focus (intro W hW; have hcW := hW.at; (try dsimp only at hcW); go_simp; first | done | with_reducible rfl)); try simp only [Act.put, List.setIfInBounds_toArray, List.set_cons_zero, List.set_cons_succ]) | (refine takeW 7 (v := ?_) rfl (by decide +kernel) (by decide +kernel) (by decide +kernel) (fun _ _ _ h => h) (Or.inl ⟨by rfl, ?_⟩) ?_; rotate_left 1; (focus (intro W hW; go_simp; first | done | with_reducible rfl)); try simp only [Act.put, List.setIfInBounds_toArray, List.set_cons_zero, List.set_cons_succ]) | (refine takeW 7 rfl (by decide +kernel) (by decide +kernel) (by decide +kernel) (fun _ _ _ h => h) (Or.inr ⟨by rfl, rfl⟩) ?_; try simp only [Act.put, List.setIfInBounds_toArray, List.set_cons_zero, List.set_cons_succ]) | skip); (first | (refine takeT 8 (v := ?_) rfl (by decide +kernel) (by decide +kernel) (by decide +kernel) (fun _ _ _ h => h) (by decide +kernel) (Or.inl ⟨by rfl, ?_⟩) ?_; rotate_left 1; (focus (intro W hW; have hcW := hW.at; (try dsimp only at hcW); go_simp; first | done | with_reducible rfl)); try simp only [Act.put, List.setIfInBounds_toArray, List.set_cons_zero, List.set_cons_succ]) | (refine takeW 8 (v := ?_) rfl (by decide +kernel) (by decide +kernel) (by decide +kernel) (fun _ _ _ h => h) (Or.inl ⟨by rfl, ?_⟩) ?_; rotate_left 1; (focus (intro W hW; go_simp; first | done | with_reducible rfl)); try simp only [Act.put, List.setIfInBounds_toArray, List.set_cons_zero, List.set_cons_succ]) | (refine takeW 8 rfl (by decide +kernel) (by decide +kernel) (by decide +kernel) (fun _ _ _ h => h) (Or.inr ⟨by rfl, rfl⟩) ?_; try simp only [Act.put, List.setIfInBounds_toArray, List.set_cons_zero, List.set_cons_succ]) | skip); (first | (refine takeT 9 (v := ?_) rfl (by decide +kernel) (by decide +kernel) (by decide +kernel) (fun _ _ _ h => h) (by decide +kernel) (Or.inl ⟨by rfl, ?_⟩) ?_; rotate_left 1; (focus (intro W hW; have hcW := hW.at; (try dsimp only at hcW); go_simp; first | done | with_reducible rfl)); try simp only [Act.put, List.setIfInBounds_toArray, List.set_cons_zero, List.set_cons_succ]) | (refine takeW 9 (v := ?_) rfl (by decide +kernel) (by decide +kernel) (by decide +kernel) (fun _ _ _ h => h) (Or.inl ⟨by rfl, ?_⟩) ?_; rotate_left 1; (focus (intro W hW; go_simp; first | done | with_reducible rfl)); try simp only [Act.put, List.setIfInBounds_toArray, List.set_cons_zero, List.set_cons_succ]) | (refine takeW 9 rfl (by decide +kernel) (by decide +kernel) (by decide +kernel) (fun _ _ _ h => h) (Or.inr ⟨by rfl, rfl⟩) ?_; try simp only [Act.put, List.setIfInBounds_toArray, List.set_cons_zero, List.set_cons_succ]) | skip); (first | (refine takeT 10 (v := ?_) rfl (by decide +kernel) (by decide +kernel) (by decide +kernel) (fun _ _ _ h => h) (by decide +kernel) (Or.inl ⟨by rfl, ?_⟩) ?_; rotate_left 1; (focus (intro W hW; have hcW := hW.at; (try dsimp only at hcW); go_simp; first | done | with_reducible rfl)); try simp only [Act.put, List.setIfInBounds_toArray, List.set_cons_zero, List.set_cons_succ]) | (refine takeW 10 (v := ?_) rfl (by decide +kernel) (by decide +kernel) (by decide +kernel) (fun _ _ _ h => h) (Or.inl ⟨by rfl, ?_⟩) ?_; rotate_left 1; (focus (intro W hW; go_simp; first | done | with_reducible rfl)); try simp only [Act.put, List.setIfInBounds_toArray, List.set_cons_zero, List.set_cons_succ]) | (refine takeW 10 rfl (by decide +kernel) (by decide +kernel) (by decide +kernel) (fun _ _ _ h => h) (Or.inr ⟨by rfl, rfl⟩) ?_; try simp only [Act.put, List.setIfInBounds_toArray, List.set_cons_zero, List.set_cons_succ]) | skip))
    refine doneT (by kernel_rfl) ?_
    clear hwr
    have q1 : decide ((dn : Int) < 0) = false := by rw [decide_eq_false_iff_not]; omega
    have q2 : decide ((y.got.length : Int) < (dn : Int)) = false := by rw [decide_eq_false_iff_not]; omega
    have q2' : decide (y.got.length < dn) = false := by rw [decide_eq_false_iff_not]; omega
    have q3 : decide ((dn : Int) + 1 < (y.got.length : Int)) = false := by rw [decide_eq_false_iff_not]; omega
    have q4 : decide ((ps.length : Int) < (y.got.length : Int)) = false := by rw [decide_eq_false_iff_not]; omega
    have q4' : decide (ps.length < y.got.length) = false := by rw [decide_eq_false_iff_not]; omega
    have q5 : IntKind.i64.wrap ((dn : Int) + 1) = (dn : Int) + 1 := by simp only [IntKind.wrap_i64]; omega
    have hcc := h1c.out
    have hsl := fun W : World => sliceP_h A ps.length c (y.got.length : Int) W (by omega) (by omega)
    simp only [Int.toNat_natCast] at hsl
    clear hcc
    go_wp2
    refine startT (S := fun a => a.block = b5 ∨ a.block = g8) (T := []) 28 (by kernel_rfl) rfl (l := #[false, false, false, false, false, false, false, false, false, false, false, false, false, false, false, false, false, false, false, false, false, false, false, false, false, false, false, false]) rfl ?_
    ((first | (refine takeT 0 (v := ?_) rfl (by decide +kernel) (by decide +kernel) (by decide +kernel) (fun _ _ _ h => h) (by decide +kernel) (Or.inl ⟨by rfl, ?_⟩) ?_; rotate_left 1; (focus (intro W hW; have hcW := hW.at; (try dsimp only at hcW); go_simp; first | done | with_reducible rfl)); try simp only [Act.put, List.setIfInBounds_toArray, List.set_cons_zero, List.set_cons_succ]) | (refine takeW 0 (v := ?_) rfl (by decide +kernel) (by decide +kernel) (by decide +kernel) (fun _ _ _ h => h) (Or.inl ⟨by rfl, ?_⟩) ?_; rotate_left 1; (focus (intro W hW; go_simp; first | done | with_reducible rfl)); try simp only [Act.put, List.setIfInBounds_toArray, List.set_cons_zero, List.set_cons_succ]) | (refine takeW 0 rfl (by decide +kernel) (by decide +kernel) (by decide +kernel) (fun _ _ _ h => h) (Or.inr ⟨by rfl, rfl⟩) ?_; try simp only [Act.put, List.setIfInBounds_toArray, List.set_cons_zero, List.set_cons_succ]) | skip); (first | (refine takeT 1 (v := ?_) rfl (by decide +kernel) (by decide +kernel) (by decide +kernel) (fun _ _ _ h => h) (by decide +kernel) (Or.inl ⟨by rfl, ?_⟩) ?_; rotate_left 1; (focus (intro W hW; have hcW := hW.at; (try dsimp only at hcW); go_simp; first | done | with_reducible rfl)); try simp only [Act.put, List.setIfInBounds_toArray, List.set_cons_zero, List.set_cons_succ]) | (refine takeW 1 (v := ?_) rfl (by decide +kernel) (by decide +kernel) (by decide +kernel) (fun _ _ _ h => h) (Or.inl ⟨by rfl, ?_⟩) ?_; rotate_left 1; (focus (intro W hW; go_simp; first | done | with_reducible rfl)); try simp only [Act.put, List.setIfInBounds_toArray, List.set_cons_zero, List.set_cons_succ]) | (refine takeW 1 rfl (by decide +kernel) (by decide +kernel) (by decide +kernel) (fun _ _ _ h => h) (Or.inr ⟨by rfl, rfl⟩) ?_; try simp only [Act.put, List.setIfInBounds_toArray, List.set_cons_zero, List.set_cons_succ]) | skip); (first | (refine takeT 2 (v := ?_) rfl (by decide +kernel) (by decide +kernel) (by decide +kernel) (fun _ _ _ h => h) (by decide +kernel) (Or.inl ⟨by rfl, ?_⟩) ?_; rotate_left 1; (focus (intro W hW; have hcW := hW.at; (try dsimp only at hcW); go_simp; first | done | with_reducible rfl)); try simp only [Act.put, List.setIfInBounds_toArray, List.set_cons_zero, List.set_cons_succ]) | (refine takeW 2 (v := ?_) rfl (by decide +kernel) (by decide +kernel) (by decide +kernel) (fun _ _ _ h => h) (Or.inl ⟨by rfl, ?_⟩) ?_; rotate_left 1; (focus (intro W hW; go_simp; first | done | with_reducible rfl)); try simp only [Act.put, List.setIfInBounds_toArray, List.set_cons_zero, List.set_cons_succ]) | (refine takeW 2 rfl (by decide +kernel) (by decide +kernel) (by decide +kernel) (fun _ _ _ h => h) (Or.inr ⟨by rfl, rfl⟩) ?_; try simp only [Act.put, List.setIfInBounds_toArray, List.set_cons_zero, List.set_cons_succ]) | skip); (first | (refine takeT 3 (v := ?_) rfl (by decide +kernel) (by decide +kernel) (by decide +kernel) (fun _ _ _ h => h) (by decide +kernel) (Or.inl ⟨by rfl, ?_⟩) ?_; rotate_left 1; (focus (intro W hW; have hcW := hW.at; (try dsimp only at hcW); go_simp; first | done | with_reducible rfl)); try simp only [Act.put, List.setIfInBounds_toArray, List.set_cons_zero, List.set_cons_succ]) | (refine takeW 3 (v := ?_) rfl (by decide +kernel) (by decide +kernel) (by decide +kernel) (fun _ _ _ h => h) (Or.inl ⟨by rfl, ?_⟩) ?_; rotate_left 1; (focus (intro W hW; go_simp; first | done | with_reducible rfl)); try simp only [Act.put, List.setIfInBounds_toArray, List.set_cons_zero, List.set_cons_succ]) | (refine takeW 3 rfl (by decide +kernel) (by decide +kernel) (by decide +kernel) (fun _ _ _ h => h) (Or.inr ⟨by rfl, rfl⟩) ?_; try simp only [Act.put, List.setIfInBounds_toArray, List.set_cons_zero, List.set_cons_succ]) | skip); (first | (refine takeT 4 (v := ?_) rfl (by decide +kernel) (by decide +kernel) (by decide +kernel) (fun _ _ _ h => h) (by decide +kernel) (Or.inl ⟨by rfl, ?_⟩) ?_; rotate_left 1; (focus (intro W hW; have hcW := hW.at; (try dsimp only at hcW); go_simp; first | done | with_reducible rfl)); try simp only [Act.put, List.setIfInBounds_toArray, List.set_cons_zero, List.set_cons_succ]) | (refine takeW 4 (v := ?_) rfl (by decide +kernel) (by decide +kernel) (by decide +kernel) (fun _ _ _ h => h) (Or.inl ⟨by rfl, ?_⟩) ?_; rotate_left 1; (focus (intro W hW; go_simp; first | done | with_reducible rfl)); try simp only [Act.put, List.setIfInBounds_toArray, List.set_cons_zero, List.set_cons_succ]) | (refine takeW 4 rfl (by decide +kernel) (by decide +kernel) (by decide +kernel) (fun _ _ _ h => h) (Or.inr ⟨by rfl, rfl⟩) ?_; try simp only [Act.put, List.setIfInBounds_toArray, List.set_cons_zero, List.set_cons_succ]) | skip); (first | (refine takeT 5 (v := ?_) rfl (by decide +kernel) (by decide +kernel) (by decide +kernel) (fun _ _ _ h => h) (by decide +kernel) (Or.inl ⟨by rfl, ?_⟩) ?_; rotate_left 1; (focus (intro W hW; have hcW := hW.at; (try dsimp only at hcW); go_simp; first | done | with_reducible rfl)); try simp only [Act.put, List.setIfInBounds_toArray, List.set_cons_zero, List.set_cons_succ]) | (refine takeW 5 (v := ?_) rfl (by decide +kernel) (by decide +kernel) (by decide +kernel) (fun _ _ _ h => h) (Or.inl ⟨by rfl, ?_⟩) ?_; rotate_left 1; (focus (intro W hW; go_simp; first | done | with_reducible rfl)); try simp only [Act.put, List.setIfInBounds_toArray, List.set_cons_zero, List.set_cons_succ]) | (refine takeW 5 rfl (by decide +kernel) (by decide +kernel) (by decide +kernel) (fun _ _ _ h => h) (Or.inr ⟨by rfl, rfl⟩) ?_; try simp only [Act.put, List.setIfInBounds_toArray, List.set_cons_zero, List.set_cons_succ]) | skip); (first | (refine takeT 6 (v := ?_) rfl (by decide +kernel) (by decide +kernel) (by decide +kernel) (fun _ _ _ h => h) (by decide +kernel) (Or.inl ⟨by rfl, ?_⟩) ?_; rotate_left 1; (focus (intro W hW; have hcW := hW.at; (try dsimp only at hcW); go_simp; first | done | with_reducible rfl)); try simp only [Act.put, List.setIfInBounds_toArray, List.set_cons_zero, List.set_cons_succ]) | (refine takeW 6 (v := ?_) rfl (by decide +kernel) (by decide +kernel) (by decide +kernel) (fun _ _ _ h => h) (Or.inl ⟨by rfl, ?_⟩) ?_; rotate_left 1; (focus (intro W hW; go_simp; first | done | with_reducible rfl)); try simp only [Act.put, List.setIfInBounds_toArray, List.set_cons_zero, List.set_cons_succ]) | (refine takeW 6 rfl (by decide +kernel) (by decide +kernel) (by decide +kernel) (fun _ _ _ h => h) (Or.inr ⟨by rfl, rfl⟩) ?_; try simp only [Act.put, List.setIfInBounds_toArray, List.set_cons_zero, List.set_cons_succ]) | skip); (first | (refine takeT 7 (v := ?_) rfl (by decide +kernel) (by decide +kernel) (by decide +kernel) (fun _ _ _ h => h) (by decide +kernel) (Or.inl ⟨by rfl, ?_⟩) ?_; rotate_left 1; (focus (intro W hW; have hcW := hW.at; (try dsimp only at hcW); go_simp; first | done | with_reducible rfl)); try simp only [Act.put, List.setIfInBounds_toArray, List.set_cons_zero, List.set_cons_succ]) | (refine takeW 7 (v := ?_) rfl (by decide +kernel) (by decide +kernel) (by decide +kernel) (fun _ _ _ h => h) (Or.inl ⟨by rfl, ?_⟩) ?_; rotate_left 1; (focus (intro W hW; go_simp; first | done | with_reducible rfl)); try simp only [Act.put, List.setIfInBounds_toArray, List.set_cons_zero, List.set_cons_succ]) | (refine takeW 7 rfl (by decide +kernel) (by decide +kernel) (by decide +kernel) (fun _ _ _ h => h) (Or.inr ⟨by rfl, rfl⟩) ?_; try simp only [Act.put, List.setIfInBounds_toArray, List.set_cons_zero, List.set_cons_succ]) | skip); (first | (refine takeT 8 (v := ?_) rfl (by decide +kernel) (by decide +kernel) (by decide +kernel) (fun _ _ _ h => h) (by decide +kernel) (Or.inl ⟨by rfl, ?_⟩) ?_; rotate_left 1; (focus (intro W hW; have hcW := hW.at; (try dsimp only at hcW); go_simp; first | done | with_reducible rfl)); try simp only [Act.put, List.setIfInBounds_toArray, List.set_cons_zero, List.set_cons_succ]) | (refine takeW 8 (v := ?_) rfl (by decide +kernel) (by decide +kernel) (by decide +kernel) (fun _ _ _ h => h) (Or.inl ⟨by rfl, ?_⟩) ?_; rotate_left 1; (focus (intro W hW; go_simp; first | done | with_reducible rfl)); try simp only [Act.put, List.setIfInBounds_toArray, List.set_cons_zero, List.set_cons_succ]) | (refine takeW 8 rfl (by decide +kernel) (by decide +kernel) (by decide +kernel) (fun _ _ _ h => h) (Or.inr ⟨by rfl, rfl⟩) ?_; try simp only [Act.put, List.setIfInBounds_toArray, List.set_cons_zero, List.set_cons_succ]) | skip); (first | (refine takeT 9 (v := ?_) rfl (by decide +kernel) (by decide +kernel) (by decide +kernel) (fun _ _ _ h => h) (by decide +kernel) (Or.inl ⟨by rfl, ?_⟩) ?_; rotate_left 1; (focus (intro W hW; have hcW := hW.at; (try dsimp only at hcW); go_simp; first | done | with_reducible rfl)); try simp only [Act.put, List.setIfInBounds_toArray, List.set_cons_zero, List.set_cons_succ]) | (refine takeW 9 (v := ?_) rfl (by decide +kernel) (by decide +kernel) (by decide +kernel) (fun _ _ _ h => h) (Or.inl ⟨by rfl, ?_⟩) ?_; rotate_left 1; (focus (intro W hW; go_simp; first | done | with_reducible rfl)); try simp only [Act.put, List.setIfInBounds_toArray, List.set_cons_zero, List.set_cons_succ]) | (refine takeW 9 rfl (by decide +kernel) (by decide +kernel) (by decide +kernel) (fun _ _ _ h => h) (Or.inr ⟨by rfl, rfl⟩) ?_; try simp only [Act.put, List.setIfInBounds_toArray, List.set_cons_zero, List.set_cons_succ]) | skip); (first | (refine takeT 10 (v := ?_) rfl (by decide +kernel) (by decide +kernel) (by decide +kernel) (fun _ _ _ h => h) (by decide +kernel) (Or.inl ⟨by rfl, ?_⟩) ?_; rotate_left 1; (focus (intro W hW; have hcW := hW.at; (try dsimp only at hcW); go_simp; first | done | with_reducible rfl)); try simp only [Act.put, List.setIfInBounds_toArray, List.set_cons_zero, List.set_cons_succ]) | (refine takeW 10 (v := ?_) rfl (by decide +kernel) (by decide +kernel) (by decide +kernel) (fun _ _ _ h => h) (Or.inl ⟨by rfl, ?_⟩) ?_; rotate_left 1; (focus (intro W hW; go_simp; first | done | with_reducible rfl)); try simp only [Act.put, List.setIfInBounds_toArray, List.set_cons_zero, List.set_cons_succ]) | (refine takeW 10 rfl (by decide +kernel) (by decide +kernel) (by decide +kernel) (fun _ _ _ h => h) (Or.inr ⟨by rfl, rfl⟩) ?_; try simp only [Act.put, List.setIfInBounds_toArray, List.set_cons_zero, List.set_cons_succ]) | skip); (first | (refine takeT 11 (v := ?_) rfl (by decide +kernel) (by decide +kernel) (by decide +kernel) (fun _ _ _ h => h) (by decide +kernel) (Or.inl ⟨by rfl, ?_⟩) ?_; rotate_left 1; (focus (intro W hW; have hcW := hW.at; (try dsimp only at hcW); go_simp; first | done | with_reducible rfl)); try simp only [Act.put, List.setIfInBounds_toArray, List.set_cons_zero, List.set_cons_succ]) | (refine takeW 11 (v := ?_) rfl (by decide +kernel) (by decide +kernel) (by decide +kernel) (fun _ _ _ h => h) (Or.inl ⟨by rfl, ?_⟩) ?_; rotate_left 1; (focus (intro W hW; go_simp; first | done | with_reducible rfl)); try simp only [Act.put, List.setIfInBounds_toArray, List.set_cons_zero, List.set_cons_succ]) | (refine takeW 11 rfl (by decide +kernel) (by decide +kernel) (by decide +kernel) (fun _ _ _ h => h) (Or.inr ⟨by rfl, rfl⟩) ?_; try simp only [Act.put, List.setIfInBounds_toArray, List.set_cons_zero, List.set_cons_succ]) | skip); (first | (refine takeT 12 (v := ?_) rfl (by decide +kernel) (by decide +kernel) (by decide +kernel) (fun _ _ _ h => h) (by decide +kernel) (Or.inl ⟨by rfl, ?_⟩) ?_; rotate_left 1; (focus (intro W hW; have hcW := hW.at; (try dsimp only at hcW); go_simp; first | done | with_reducible rfl)); try simp only [Act.put, List.setIfInBounds_toArray, List.set_cons_zero, List.set_cons_succ]) | (refine takeW 12 (v := ?_) rfl (by decide +kernel) (by decide +kernel) (by decide +kernel) (fun _ _ _ h => h) (Or.inl ⟨by rfl, ?_⟩) ?_; rotate_left 1; (focus (intro W hW; go_simp; first | done | with_reducible rfl)); try simp only [Act.put, List.setIfInBounds_toArray, List.set_cons_zero, List.set_cons_succ]) | (refine takeW 12 rfl (by decide +kernel) (by decide +kernel) (by decide +kernel) (fun _ _ _ h => h) (Or.inr ⟨by rfl, rfl⟩) ?_; try simp only [Act.put, List.setIfInBounds_toArray, List.set_cons_zero, List.set_cons_succ]) | skip); (first | (refine takeT 13 (v := ?_) rfl (by decide +kernel) (by decide +kernel) (by decide +kernel) (fun _ _ _ h => h) (by decide +kernel) (Or.inl ⟨by rfl, ?_⟩) ?_; rotate_left 1; (focus (intro W hW; have hcW := hW.at; (try dsimp only at hcW); go_simp; first | done | with_reducible rfl)); try simp only [Act.put, List.setIfInBounds_toArray, List.set_cons_zero, List.set_cons_succ]) | (refine takeW 13 (v := ?_) rfl (by decide +kernel) (by decide +kernel) (by decide +kernel) (fun _ _ _ h => h) (Or.inl ⟨by rfl, ?_⟩) ?_; rotate_left 1; (focus (intro W hW; go_simp; first | done | with_reducible rfl)); try simp only [Act.put, List.setIfInBounds_toArray, List.set_cons_zero, List.set_cons_succ]) | (refine takeW 13 rfl (by decide +kernel) (by decide +kernel) (by decide +kernel) (fun _ _ _ h => h) (Or.inr ⟨by rfl, rfl⟩) ?_; try simp only [Act.put, List.setIfInBounds_toArray, List.set_cons_zero, List.set_cons_succ]) | skip); (first | (refine takeT 14 (v := ?_) rfl (by decide +kernel) (by decide +kernel) (by decide +kernel) (fun _ _ _ h => h) (by decide +kernel) (Or.inl ⟨by rfl, ?_⟩) ?_; rotate_left 1; (focus (intro W hW; have hcW := hW.at; (try dsimp only at hcW); go_simp; first | done | with_reducible rfl)); try simp only [Act.put, List.setIfInBounds_toArray, List.set_cons_zero, List.set_cons_succ]) | (refine takeW 14 (v := ?_) rfl (by decide +kernel) (by decide +kernel) (by decide +kernel) (fun _ _ _ h => h) (Or.inl ⟨by rfl, ?_⟩) ?_; rotate_left 1; (focus (intro W hW; go_simp; first | done | with_reducible rfl)); try simp only [Act.put, List.setIfInBounds_toArray, List.set_cons_zero, List.set_cons_succ]) | (refine takeW 14 rfl (by decide +kernel) (by decide +kernel) (by decide +kernel) (fun _ _ _ h => h) (Or.inr ⟨by rfl, rfl⟩) ?_; try simp only [Act.put, List.setIfInBounds_toArray, List.set_cons_zero, List.set_cons_succ]) | skip); (first | (refine takeT 15 (v := ?_) rfl (by decide +kernel) (by decide +kernel) (by decide +kernel) (fun _ _ _ h => h) (by decide +kernel) (Or.inl ⟨by rfl, ?_⟩) ?_; rotate_left 1; (focus (intro W hW; have hcW := hW.at; (try dsimp only at hcW); go_simp; first | done | with_reducible rfl)); try simp only [Act.put, List.setIfInBounds_toArray, List.set_cons_zero, List.set_cons_succ]) | (refine takeW 15 (v := ?_) rfl (by decide +kernel) (by decide +kernel) (by decide +kernel) (fun _ _ _ h => h) (Or.inl ⟨by rfl, ?_⟩) ?_; rotate_left 1; (focus (intro W hW; go_simp; first | done | with_reducible rfl)); try simp only [Act.put, List.setIfInBounds_toArray, List.set_cons_zero, List.set_cons_succ]) | (refine takeW 15 rfl (by decide +kernel) (by decide +kernel) (by decide +kernel) (fun _ _ _ h => h) (Or.inr ⟨by rfl, rfl⟩) ?_; try simp only [Act.put, List.setIfInBounds_toArray, List.set_cons_zero, List.set_cons_succ]) | skip); (first | (refine takeT 16 (v := ?_) rfl (by decide +kernel) (by decide +kernel) (by decide +kernel) (fun _ _ _ h => h) (by decide +kernel) (Or.inl ⟨by rfl, ?_⟩) ?_; rotate_left 1; (focus (intro W hW; have hcW := hW.at; (try dsimp only at hcW); go_simp; first | done | with_reducible rfl)); try simp only [Act.put, List.setIfInBounds_toArray, List.set_cons_zero, List.set_cons_succ]) | (refine takeW 16 (v := ?_) rfl (by decide +kernel) (by decide +kernel) (by decide +kernel) (fun _ _ _ h => h) (Or.inl ⟨by rfl, ?_⟩) ?_; rotate_left 1; (focus (intro W hW; go_simp; first | done | with_reducible rfl)); try simp only [Act.put, List.setIfInBounds_toArray, List.set_cons_zero, List.set_cons_succ]) | (refine takeW 16 rfl (by decide +kernel) (by decide +kernel) (by decide +kernel) (fun _ _ _ h => h) (Or.inr ⟨by rfl, rfl⟩) ?_; try simp only [Act.put, List.setIfInBounds_toArray, List.set_cons_zero, List.set_cons_succ]) | skip); (first | (refine takeT 17 (v := ?_) rfl (by decide +kernel) (by decide +kernel) (by decide +kernel) (fun _ _ _ h => h) (by decide +kernel) (Or.inl ⟨by rfl, ?_⟩) ?_; rotate_left 1; (focus (intro W hW; have hcW := hW.at; (try dsimp only at hcW); go_simp; first | done | with_reducible rfl)); try simp only [Act.put, List.setIfInBounds_toArray, List.set_cons_zero, List.set_cons_succ]) | (refine takeW 17 (v := ?_) rfl (by decide +kernel) (by decide +kernel) (by decide +kernel) (fun _ _ _ h => h) (Or.inl ⟨by rfl, ?_⟩) ?_; rotate_left 1; (focus (intro W hW; go_simp; first | done | with_reducible rfl)); try simp only [Act.put, List.setIfInBounds_toArray, List.set_cons_zero, List.set_cons_succ]) | (refine takeW 17 rfl (by decide +kernel) (by decide +kernel) (by decide +kernel) (fun _ _ _ h => h) (Or.inr ⟨by rfl, rfl⟩) ?_; try simp only [Act.put, List.setIfInBounds_toArray, List.set_cons_zero, List.set_cons_succ]) | skip); (first | (refine takeT 18 (v := ?_) rfl (by decide +kernel) (by decide +kernel) (by decide +kernel) (fun _ _ _ h => h) (by decide +kernel) (Or.inl ⟨by rfl, ?_⟩) ?_; rotate_left 1; (focus (intro W hW; have hcW := hW.at; (try dsimp only at hcW); go_simp; first | done | with_reducible rfl)); try simp only [Act.put, List.setIfInBounds_toArray, List.set_cons_zero, List.set_cons_succ]) | (refine takeW 18 (v := ?_) rfl (by decide +kernel) (by decide +kernel) (by decide +kernel) (fun _ _ _ h => h) (Or.inl ⟨by rfl, ?_⟩) ?_; rotate_left 1; (focus (intro W hW; go_simp; first | done | with_reducible rfl)); try simp only [Act.put, List.setIfInBounds_toArray, List.set_cons_zero, List.set_cons_succ]) | (refine takeW 18 rfl (by decide +kernel) (by decide +kernel) (by decide +kernel) (fun _ _ _ h => h) (Or.inr ⟨by rfl, rfl⟩) ?_; try simp only [Act.put, List.setIfInBounds_toArray, List.set_cons_zero, List.set_cons_succ]) | skip); (first | (refine takeT 19 (v := ?_) rfl (by decide +kernel) (by decide +kernel) (by decide +kernel) (fun _ _ _ h => h) (by decide +kernel) (Or.inl ⟨by rfl, ?_⟩) ?_; rotate_left 1; (focus (intro W hW; have hcW := hW.at; (try dsimp only at hcW); go_simp; first | done | with_reducible rfl)); try simp only [Act.put, List.setIfInBounds_toArray, List.set_cons_zero, List.set_cons_succ]) | (refine takeW 19 (v := ?_) rfl (by decide +kernel) (by decide +kernel) (by decide +kernel) (fun _ _ _ h => h) (Or.inl ⟨by rfl, ?_⟩) ?_; rotate_left 1; (focus (intro W hW; go_simp; first | done | with_reducible rfl)); try simp only [Act.put, List.setIfInBounds_toArray, List.set_cons_zero, List.set_cons_succ]) | (refine takeW 19 rfl (by decide +kernel) (by decide +kernel) (by decide +kernel) (fun _ _ _ h => h) (Or.inr ⟨by rfl, rfl⟩) ?_; try simp only [Act.put, List.setIfInBounds_toArray, List.set_cons_zero, List.set_cons_succ]) | skip); (first | (refine takeT 20 (v := ?_) rfl (by decide +kernel) (by decide +kernel) (by decide +kernel) (fun _ _ _ h => h) (by decide +kernel) (Or.inl ⟨by rfl, ?_⟩) ?_; rotate_left 1; (focus (intro W hW; have hcW := hW.at; (try dsimp only at hcW); go_simp; first | done | with_reducible rfl)); try simp only [Act.put, List.setIfInBounds_toArray, List.set_cons_zero, List.set_cons_succ]) | (refine takeW 20 (v := ?_) rfl (by decide +kernel) (by decide +kernel) (by decide +kernel) (fun _ _ _ h => h) (Or.inl ⟨by rfl, ?_⟩) ?_; rotate_left 1; (focus (intro W hW; go_simp; first | done | with_reducible rfl)); try simp only [Act.put, List.setIfInBounds_toArray, List.set_cons_zero, List.set_cons_succ]) | (refine takeW 20 rfl (by decide +kernel) (by decide +kernel) (by decide +kernel) (fun _ _ _ h => h) (Or.inr ⟨by rfl, rfl⟩) ?_; try simp only [Act.put, List.setIfInBounds_toArray, List.set_cons_zero, List.set_cons_succ]) | skip); (first | (refine takeT 21 (v := ?_) rfl (by decide +kernel) (by decide +kernel) (by decide +kernel) (fun _ _ _ h => h) (by decide +kernel) (Or.inl ⟨by rfl, ?_⟩) ?_; rotate_left 1; (focus (intro W hW; have hcW := hW.at; (try dsimp only at hcW); go_simp; first | done | with_reducible rfl)); try simp only [Act.put, List.setIfInBounds_toArray, List.set_cons_zero, List.set_cons_succ]) | (refine takeW 21 (v := ?_) rfl (by decide +kernel) (by decide +kernel) (by decide +kernel) (fun _ _ _ h => h) (Or.inl ⟨by rfl, ?_⟩) ?_; rotate_left 1; (focus (intro W hW; go_simp; first | done | with_reducible rfl)); try simp only [Act.put, List.setIfInBounds_toArray, List.set_cons_zero, List.set_cons_succ]) | (refine takeW 21 rfl (by decide +kernel) (by decide +kernel) (by decide +kernel) (fun _ _ _ h => h) (Or.inr ⟨by rfl, rfl⟩) ?_; try simp only [Act.put, List.setIfInBounds_toArray, List.set_cons_zero, List.set_cons_succ]) | skip); (first | (refine takeT 22 (v := ?_) rfl (by decide +kernel) (by decide +kernel) (by decide +kernel) (fun _ _ _ h => h) (by decide +kernel) (Or.inl ⟨by rfl, ?_⟩) ?_; rotate_left 1; (focus (intro W hW; have hcW := hW.at; (try dsimp only at hcW); go_simp; first | done | with_reducible rfl)); try simp only [Act.put, List.setIfInBounds_toArray, List.set_cons_zero, List.set_cons_succ]) | (refine takeW 22 (v := ?_) rfl (by decide +kernel) (by decide +kernel) (by decide +kernel) (fun _ _ _ h => h) (Or.inl ⟨by rfl, ?_⟩) ?_; rotate_left 1; (focus (intro W hW; go_simp; first | done | with_reducible rfl)); try simp only [Act.put, List.setIfInBounds_toArray, List.set_cons_zero, List.set_cons_succ]) | (refine takeW 22 rfl (by decide +kernel) (by decide +kernel) (by decide +kernel) (fun _ _ _ h => h) (Or.inr ⟨by rfl, rfl⟩) ?_; try simp only [Act.put, List.setIfInBounds_toArray, List.set_cons_zero, List.set_cons_succ]) | skip); (first | (refine takeT 23 (v := ?_) rfl (by decide +kernel) (by decide +kernel) (by decide +kernel) (fun _ _ _ h => h) (by decide +kernel) (Or.inl ⟨by rfl, ?_⟩) ?_; rotate_left 1; (focus (intro W hW; have hcW := hW.at; (try dsimp only at hcW); go_simp; first | done | with_reducible rfl)); try simp only [Act.put, List.setIfInBounds_toArray, List.set_cons_zero, List.set_cons_succ]) | (refine takeW 23 (v := ?_) rfl (by decide +kernel) (by decide +kernel) (by decide +kernel) (fun _ _ _ h => h) (Or.inl ⟨by rfl, ?_⟩) ?_; rotate_left 1; (focus (intro W hW; go_simp; first | done | with_reducible rfl)); try simp only [Act.put, List.setIfInBounds_toArray, List.set_cons_zero, List.set_cons_succ]) | (refine takeW 23 rfl (by decide +kernel) (by decide +kernel) (by decide +kernel) (fun _ _ _ h => h) (Or.inr ⟨by rfl, rfl⟩) ?_; try simp only [Act.put, List.setIfInBounds_toArray, List.set_cons_zero, List.set_cons_succ]) | skip); (first | (refine takeT 24 (v := ?_) rfl (by decide +kernel) (by decide +kernel) (by decide +kernel) (fun _ _ _ h => h) (by decide +kernel) (Or.inl ⟨by rfl, ?_⟩) ?_; rotate_left 1; (focus (intro W hW; have hcW := hW.at; (try dsimp only at hcW); go_simp; first | done | with_reducible rfl)); try simp only [Act.put, List.setIfInBounds_toArray, List.set_cons_zero, List.set_cons_succ]) | (refine takeW 24 (v := ?_) rfl (by decide +kernel) (by decide +kernel) (by decide +kernel) (fun _ _ _ h => h) (Or.inl ⟨by rfl, ?_⟩) ?_; rotate_left 1; (focus (intro W hW; go_simp; first | done | with_reducible rfl)); try simp only [Act.put, List.setIfInBounds_toArray, List.set_cons_zero, List.set_cons_succ]) | (refine takeW 24 rfl (by decide +kernel) (by decide +kernel) (by decide +kernel) (fun _ _ _ h => h) (Or.inr ⟨by rfl, rfl⟩) ?_; try simp only [Act.put, List.setIfInBounds_toArray, List.set_cons_zero, List.set_cons_succ]) | skip))
    have hr1 := (nb.out.rds ⟨by omega, hsy.2.1⟩).belowTop ((Below.refl w2.heap.size w2).drew.drew)
    have hr2 := (((H3.out.more hW3.out.size).take (k := y.got.length) (by omega)).belowTop ((Below.refl w2.heap.size w2).drew.drew))
    rw [← m5.out] at hr2
    refine stepT 25 rfl (by decide +kernel) (by rfl) ?_
    intro K hK
    go_simp
    refine (lists_n _ _ _ _ _ _ y.got rfl hr1 hr2 (by omega)).mono ?_
    rintro e w3 ⟨rfl, bb⟩
    have bb2 : Below w2.heap.size w2 w3 := ⟨bb.os, bb.tape, bb.output, bb.size, bb.block⟩
    refine hK _ _ (.inr fun a ha => by rcases ha with h | h <;> exact bb.cell (by rw [h]; first | exact hb5 | exact hb8)) ?_
    replace h5 := Lib.hid ((bb2.block _ hb5).trans h5.out)
    replace h8 := Lib.hid ((bb2.block _ hb8).trans h8.out)
    replace na := Lib.hid (na.out.below bb2)
    replace nb := Lib.hid (nb.out.below bb2)
    have hW4 := Lib.hid (show Below w.heap.size w w3 from hW3.out.trans (bb2.mono hW3.out.size))
    have H4 := Lib.hid (H1.out.below hW4.out)
    clear hK K hr1 hr2 bb bb2 hW3 H3 q1 q2 q2' q3 q4 q4' q5 hsl e0 e1 e2 e3 hb5 hb8
    try simp only [Act.put, List.setIfInBounds_toArray, List.set_cons_zero, List.set_cons_succ]
    ((first | (refine takeT 26 (v := ?_) rfl (by decide +kernel) (by decide +kernel) (by decide +kernel) (fun _ _ _ h => h) (by decide +kernel) (Or.inl ⟨by rfl, ?_⟩) ?_; rotate_left 1; (focus (intro W hW; have hcW := hW.at; (try dsimp only at hcW); go_simp; first | done | with_reducible rfl)); try simp only [Act.put, List.setIfInBounds_toArray, List.set_cons_zero, List.set_cons_succ]) | (refine takeW 26 (v := ?_) rfl (by decide +kernel) (by decide +kernel) (by decide +kernel) (fun _ _ _ h => h) (Or.inl ⟨by rfl, ?_⟩) ?_; rotate_left 1; (focus (intro W hW; go_simp; first | done | with_reducible rfl)); try simp only [Act.put, List.setIfInBounds_toArray, List.set_cons_zero, List.set_cons_succ]) | (refine takeW 26 rfl (by decide +kernel) (by decide +kernel) (by decide +kernel) (fun _ _ _ h => h) (Or.inr ⟨by rfl, rfl⟩) ?_; try simp only [Act.put, List.setIfInBounds_toArray, List.set_cons_zero, List.set_cons_succ]) | skip); (first | (refine takeT 27 (v := ?_) rfl (by decide +kernel) (by decide +kernel) (by decide +kernel) (fun _ _ _ h => h) (by decide +kernel) (Or.inl ⟨by rfl, ?_⟩) ?_; rotate_left 1; (focus (intro W hW; have hcW := hW.at; (try dsimp only at hcW); go_simp; first | done | with_reducible rfl)); try simp only [Act.put, List.setIfInBounds_toArray, List.set_cons_zero, List.set_cons_succ]) | (refine takeW 27 (v := ?_) rfl (by decide +kernel) (by decide +kernel) (by decide +kernel) (fun _ _ _ h => h) (Or.inl ⟨by rfl, ?_⟩) ?_; rotate_left 1; (focus (intro W hW; go_simp; first | done | with_reducible rfl)); try simp only [Act.put, List.setIfInBounds_toArray, List.set_cons_zero, List.set_cons_succ]) | (refine takeW 27 rfl (by decide +kernel) (by decide +kernel) (by decide +kernel) (fun _ _ _ h => h) (Or.inr ⟨by rfl, rfl⟩) ?_; try simp only [Act.put, List.setIfInBounds_toArray, List.set_cons_zero, List.set_cons_succ]) | skip))
    refine doneT (by kernel_rfl) ?_
    have hb5 := block_lt h5.out
    have hb8 := block_lt h8.out
    have e0 := block_at h5.out (i := 0) (v := .bool y.st) rfl
    have e1 := block_at h5.out (i := 1) (v := .slice (some ⟨ga, 0, none⟩) y.left.length y.left.length) rfl
    have e2 := block_at h8.out (i := 0) (v := .bool y.rt) rfl
    have e3 := block_at h8.out (i := 1) (v := .slice (some ⟨gb, 0, none⟩) y.got.length y.got.length) rfl
    have hmk := fun W : World => makeX y.left.length W (by omega)
    obtain ⟨t', hgood⟩ := hinv.good
    have KR2 : Hid (∀ (W : World) (A A' A2 : Option Addr) (c c' c2 : Nat), Rds W W.heap.size A c y.left → Rds W W.heap.size A' c' y.got → RdX W W.heap.size A2 c2 (List.replicate y.left.length (false, false)) → Calls Try.prog 19 #[sv y.st (.slice A y.left.length c), sv y.rt (.slice A' y.got.length c'), .slice A2 y.left.length c2] W (ResR W ⟨t', [], t', ps⟩)) := by
      intro W A A' A2 c c' c2 h h' h2
      have := run_any W y A c A' c' A2 c2 (List.replicate y.left.length (false, false)) h h' h2 hsy (by rw [List.length_replicate]; omega)
      rw [hgood, List.length_replicate] at this
      exact this
    have sm1 : Sml y.left := ⟨by omega, hsy.1⟩
    have sm2 : Sml y.got := ⟨by omega, hsy.2.1⟩
    clear hgood
    go_wp2
    refine startT (S := fun a => a.block = b5 ∨ a.block = g8) (T := [10, 11]) 12 (by kernel_rfl) rfl (l := #[false, false, false, false, false, false, false, false, false, false, false, false]) rfl ?_
    ((first | (refine takeT 0 (v := ?_) rfl (by decide +kernel) (by decide +kernel) (by decide +kernel) (fun _ _ _ h => h) (by decide +kernel) (Or.inl ⟨by rfl, ?_⟩) ?_; rotate_left 1; (focus (intro W hW; have hcW := hW.at; (try dsimp only at hcW); go_simp; first | done | with_reducible rfl)); try simp only [Act.put, List.setIfInBounds_toArray, List.set_cons_zero, List.set_cons_succ]) | (refine takeW 0 (v := ?_) rfl (by decide +kernel) (by decide +kernel) (by decide +kernel) (fun _ _ _ h => h) (Or.inl ⟨by rfl, ?_⟩) ?_; rotate_left 1; (focus (intro W hW; go_simp; first | done | with_reducible rfl)); try simp only [Act.put, List.setIfInBounds_toArray, List.set_cons_zero, List.set_cons_succ]) | (refine takeW 0 rfl (by decide +kernel) (by decide +kernel) (by decide +kernel) (fun _ _ _ h => h) (Or.inr ⟨by rfl, rfl⟩) ?_; try simp only [Act.put, List.setIfInBounds_toArray, List.set_cons_zero, List.set_cons_succ]) | skip); (first | (refine takeT 1 (v := ?_) rfl (by decide +kernel) (by decide +kernel) (by decide +kernel) (fun _ _ _ h => h) (by decide +kernel) (Or.inl ⟨by rfl, ?_⟩) ?_; rotate_left 1; (focus (intro W hW; have hcW := hW.at; (try dsimp only at hcW); go_simp; first | done | with_reducible rfl)); try simp only [Act.put, List.setIfInBounds_toArray, List.set_cons_zero, List.set_cons_succ]) | (refine takeW 1 (v := ?_) rfl (by decide +kernel) (by decide +kernel) (by decide +kernel) (fun _ _ _ h => h) (Or.inl ⟨by rfl, ?_⟩) ?_; rotate_left 1; (focus (intro W hW; go_simp; first | done | with_reducible rfl)); try simp only [Act.put, List.setIfInBounds_toArray, List.set_cons_zero, List.set_cons_succ]) | (refine takeW 1 rfl (by decide +kernel) (by decide +kernel) (by decide +kernel) (fun _ _ _ h => h) (Or.inr ⟨by rfl, rfl⟩) ?_; try simp only [Act.put, List.setIfInBounds_toArray, List.set_cons_zero, List.set_cons_succ]) | skip); (first | (refine takeT 2 (v := ?_) rfl (by decide +kernel) (by decide +kernel) (by decide +kernel) (fun _ _ _ h => h) (by decide +kernel) (Or.inl ⟨by rfl, ?_⟩) ?_; rotate_left 1; (focus (intro W hW; have hcW := hW.at; (try dsimp only at hcW); go_simp; first | done | with_reducible rfl)); try simp only [Act.put, List.setIfInBounds_toArray, List.set_cons_zero, List.set_cons_succ]) | (refine takeW 2 (v := ?_) rfl (by decide +kernel) (by decide +kernel) (by decide +kernel) (fun _ _ _ h => h) (Or.inl ⟨by rfl, ?_⟩) ?_; rotate_left 1; (focus (intro W hW; go_simp; first | done | with_reducible rfl)); try simp only [Act.put, List.setIfInBounds_toArray, List.set_cons_zero, List.set_cons_succ]) | (refine takeW 2 rfl (by decide +kernel) (by decide +kernel) (by decide +kernel) (fun _ _ _ h => h) (Or.inr ⟨by rfl, rfl⟩) ?_; try simp only [Act.put, List.setIfInBounds_toArray, List.set_cons_zero, List.set_cons_succ]) | skip); (first | (refine takeT 3 (v := ?_) rfl (by decide +kernel) (by decide +kernel) (by decide +kernel) (fun _ _ _ h => h) (by decide +kernel) (Or.inl ⟨by rfl, ?_⟩) ?_; rotate_left 1; (focus (intro W hW; have hcW := hW.at; (try dsimp only at hcW); go_simp; first | done | with_reducible rfl)); try simp only [Act.put, List.setIfInBounds_toArray, List.set_cons_zero, List.set_cons_succ]) | (refine takeW 3 (v := ?_) rfl (by decide +kernel) (by decide +kernel) (by decide +kernel) (fun _ _ _ h => h) (Or.inl ⟨by rfl, ?_⟩) ?_; rotate_left 1; (focus (intro W hW; go_simp; first | done | with_reducible rfl)); try simp only [Act.put, List.setIfInBounds_toArray, List.set_cons_zero, List.set_cons_succ]) | (refine takeW 3 rfl (by decide +kernel) (by decide +kernel) (by decide +kernel) (fun _ _ _ h => h) (Or.inr ⟨by rfl, rfl⟩) ?_; try simp only [Act.put, List.setIfInBounds_toArray, List.set_cons_zero, List.set_cons_succ]) | skip); (first | (refine takeT 4 (v := ?_) rfl (by decide +kernel) (by decide +kernel) (by decide +kernel) (fun _ _ _ h => h) (by decide +kernel) (Or.inl ⟨by rfl, ?_⟩) ?_; rotate_left 1; (focus (intro W hW; have hcW := hW.at; (try dsimp only at hcW); go_simp; first | done | with_reducible rfl)); try simp only [Act.put, List.setIfInBounds_toArray, List.set_cons_zero, List.set_cons_succ]) | (refine takeW 4 (v := ?_) rfl (by decide +kernel) (by decide +kernel) (by decide +kernel) (fun _ _ _ h => h) (Or.inl ⟨by rfl, ?_⟩) ?_; rotate_left 1; (focus (intro W hW; go_simp; first | done | with_reducible rfl)); try simp only [Act.put, List.setIfInBounds_toArray, List.set_cons_zero, List.set_cons_succ]) | (refine takeW 4 rfl (by decide +kernel) (by decide +kernel) (by decide +kernel) (fun _ _ _ h => h) (Or.inr ⟨by rfl, rfl⟩) ?_; try simp only [Act.put, List.setIfInBounds_toArray, List.set_cons_zero, List.set_cons_succ]) | skip))
    have hL : Below w.heap.size w w3.drew := hW4.out.drew
    have na3 : Hid (News w3.drew w.heap.size ga y.left) := na.out.below (Below.refl _ _).drew
    have nb3 : Hid (News w3.drew w.heap.size gb y.got) := nb.out.below (Below.refl _ _).drew
    have h53 : Hid (w3.drew.heap[b5]? = some (.cells #[.bool y.st, .slice (some ⟨ga, 0, none⟩) y.left.length y.left.length] 28 (0, 0))) := h5.out
    have h83 : Hid (w3.drew.heap[g8]? = some (.cells #[.bool y.rt, .slice (some ⟨gb, 0, none⟩) y.got.length y.got.length] 39 (0, 0))) := h8.out
    clear h5 h8 na nb hW4 H4 e0 e1 e2 e3 hb5 hb8
    generalize w3.drew = w4 at hL na3 nb3 h53 h83 ⊢
    refine stepT 5 rfl (by decide +kernel) (by rfl) ?_
    intro K hK
    go_simp
    have bb := (Below.refl w4.heap.size w4).alloc (Nat.le_refl _) (.cells (madeCells #[.bool false, .bool false] (y.left.length * 2)) 56)
    have hx5 := Lib.hid (rdx_made y.left.length w4 (by omega))
    refine hK _ _ (.inr fun a ha => by rcases ha with h | h <;> exact bb.cell (by rw [h]; first | exact block_lt h53.out | exact block_lt h83.out)) ?_
    replace h53 := Lib.hid ((bb.block _ (block_lt h53.out)).trans h53.out)
    replace h83 := Lib.hid ((bb.block _ (block_lt h83.out)).trans h83.out)
    replace na3 := Lib.hid (na3.out.below bb)
    replace nb3 := Lib.hid (nb3.out.below bb)
    replace hL := hL.trans (bb.mono hL.size)
    clear hK K bb hmk
    try simp only [Act.put, List.setIfInBounds_toArray, List.set_cons_zero, List.set_cons_succ]
    generalize w4.alloc (.cells (madeCells #[.bool false, .bool false] (y.left.length * 2)) 56) = w5 at hL na3 nb3 h53 h83 hx5 ⊢
    generalize w4.heap.size = q5 at hx5 ⊢
    refine stepT 6 rfl (by decide +kernel) (by rfl) ?_
    intro K hK
    go_simp
    refine (KR2.out w5 _ _ _ _ _ _ (na3.out.rds sm1) (nb3.out.rds sm2) hx5.out).mono ?_
    rintro e w6 ⟨gc, gd, rfl, nc, nd, bb⟩
    refine hK _ _ (.inr fun a ha => by rcases ha with h | h <;> exact bb.cell (by rw [h]; first | exact block_lt h53.out | exact block_lt h83.out)) ?_
    replace h53 := (bb.block _ (block_lt h53.out)).trans h53.out
    replace h83 := Lib.hid ((bb.block _ (block_lt h83.out)).trans h83.out)
    replace nc := Lib.hid (nc.mono (base' := w.heap.size) hL.size)
    replace nd := Lib.hid (nd.mono (base' := w.heap.size) hL.size)
    replace hL := hL.trans (bb.mono hL.size)
    clear hK K bb na3 nb3 hx5
    try simp only [Act.put, List.setIfInBounds_toArray, List.set_cons_zero, List.set_cons_succ]
    ((first | (refine takeT 7 (v := ?_) rfl (by decide +kernel) (by decide +kernel) (by decide +kernel) (fun _ _ _ h => h) (by decide +kernel) (Or.inl ⟨by rfl, ?_⟩) ?_; rotate_left 1; (focus (intro W hW; have hcW := hW.at; (try dsimp only at hcW); go_simp; first | done | with_reducible rfl)); try simp only [Act.put, List.setIfInBounds_toArray, List.set_cons_zero, List.set_cons_succ]) | (refine takeW 7 (v := ?_) rfl (by decide +kernel) (by decide +kernel) (by decide +kernel) (fun _ _ _ h => h) (Or.inl ⟨by rfl, ?_⟩) ?_; rotate_left 1; (focus (intro W hW; go_simp; first | done | with_reducible rfl)); try simp only [Act.put, List.setIfInBounds_toArray, List.set_cons_zero, List.set_cons_succ]) | (refine takeW 7 rfl (by decide +kernel) (by decide +kernel) (by decide +kernel) (fun _ _ _ h => h) (Or.inr ⟨by rfl, rfl⟩) ?_; try simp only [Act.put, List.setIfInBounds_toArray, List.set_cons_zero, List.set_cons_succ]) | skip); (first | (refine takeT 8 (v := ?_) rfl (by decide +kernel) (by decide +kernel) (by decide +kernel) (fun _ _ _ h => h) (by decide +kernel) (Or.inl ⟨by rfl, ?_⟩) ?_; rotate_left 1; (focus (intro W hW; have hcW := hW.at; (try dsimp only at hcW); go_simp; first | done | with_reducible rfl)); try simp only [Act.put, List.setIfInBounds_toArray, List.set_cons_zero, List.set_cons_succ]) | (refine takeW 8 (v := ?_) rfl (by decide +kernel) (by decide +kernel) (by decide +kernel) (fun _ _ _ h => h) (Or.inl ⟨by rfl, ?_⟩) ?_; rotate_left 1; (focus (intro W hW; go_simp; first | done | with_reducible rfl)); try simp only [Act.put, List.setIfInBounds_toArray, List.set_cons_zero, List.set_cons_succ]) | (refine takeW 8 rfl (by decide +kernel) (by decide +kernel) (by decide +kernel) (fun _ _ _ h => h) (Or.inr ⟨by rfl, rfl⟩) ?_; try simp only [Act.put, List.setIfInBounds_toArray, List.set_cons_zero, List.set_cons_succ]) | skip); (first | (refine takeT 9 (v := ?_) rfl (by decide +kernel) (by decide +kernel) (by decide +kernel) (fun _ _ _ h => h) (by decide +kernel) (Or.inl ⟨by rfl, ?_⟩) ?_; rotate_left 1; (focus (intro W hW; have hcW := hW.at; (try dsimp only at hcW); go_simp; first | done | with_reducible rfl)); try simp only [Act.put, List.setIfInBounds_toArray, List.set_cons_zero, List.set_cons_succ]) | (refine takeW 9 (v := ?_) rfl (by decide +kernel) (by decide +kernel) (by decide +kernel) (fun _ _ _ h => h) (Or.inl ⟨by rfl, ?_⟩) ?_; rotate_left 1; (focus (intro W hW; go_simp; first | done | with_reducible rfl)); try simp only [Act.put, List.setIfInBounds_toArray, List.set_cons_zero, List.set_cons_succ]) | (refine takeW 9 rfl (by decide +kernel) (by decide +kernel) (by decide +kernel) (fun _ _ _ h => h) (Or.inr ⟨by rfl, rfl⟩) ?_; try simp only [Act.put, List.setIfInBounds_toArray, List.set_cons_zero, List.set_cons_succ]) | skip))
    have n58 : b5 ≠ g8 := block_ne h53 h83.out (by decide)
    have d0 := block_at h53 (i := 0) (v := .bool y.st) rfl
    have d1 := block_at h53 (i := 1) (v := .slice (some ⟨ga, 0, none⟩) y.left.length y.left.length) rfl
    have f0 := block_free h53 0
    have f1 := block_free h53 1
    replace h53 := Lib.hid h53
    refine stepT 10 rfl (by decide +kernel) (by rfl) ?_
    intro K hK
    go_simp
    have hg5 := grown_trans (grown_setCell w6 ⟨b5, 0, none⟩ (.bool t')) (grown_setCell (w6.setCell ⟨b5, 0, none⟩ (.bool t')) ⟨b5, 1, none⟩ (.slice (some ⟨gc, 0, none⟩) 0 0))
    refine hK _ _ (.inl (by decide)) ?_
    replace h83 := Lib.hid (block_grown h83.out hg5 (fun e => n58 (Option.some.inj e).symm))
    replace nd := Lib.hid (nd.out.stores2 h53.out (by decide) (by decide) (.bool t') (.slice (some ⟨gc, 0, none⟩) 0 0))
    replace h53 : Hid (((w6.setCell ⟨b5, 0, none⟩ (.bool t')).setCell ⟨b5, 1, none⟩ (.slice (some ⟨gc, 0, none⟩) 0 0)).heap[b5]? = _) := set2 h53.out (.bool t') (.slice (some ⟨gc, 0, none⟩) 0 0)
    replace hL := below2 hL hge (.bool t') (.slice (some ⟨gc, 0, none⟩) 0 0)
    clear hK K hg5 d0 d1 f0 f1 nc
    try simp only [Act.put, List.setIfInBounds_toArray, List.set_cons_zero, List.set_cons_succ]
    generalize (w6.setCell ⟨b5, 0, none⟩ (.bool t')).setCell ⟨b5, 1, none⟩ (.slice (some ⟨gc, 0, none⟩) 0 0) = w7 at h53 h83 nd hL ⊢
    have d0 := block_at h83.out (i := 0) (v := .bool y.rt) rfl
    have d1 := block_at h83.out (i := 1) (v := .slice (some ⟨gb, 0, none⟩) y.got.length y.got.length) rfl
    have f0 := block_free h83.out 0
    have f1 := block_free h83.out 1
    refine stepT 11 rfl (by decide +kernel) (by rfl) ?_
    intro K hK
    go_simp
    have hg8 := grown_trans (grown_setCell w7 ⟨g8, 0, none⟩ (.bool t')) (grown_setCell (w7.setCell ⟨g8, 0, none⟩ (.bool t')) ⟨g8, 1, none⟩ (.slice (some ⟨gd, 0, none⟩) ps.length ps.length))
    refine hK _ _ (.inl (by decide)) ?_
    replace h53 := block_grown h53.out hg8 (fun e => n58 (Option.some.inj e))
    replace nd := Lib.hid (nd.out.stores2 h83.out (by decide) (by decide) (.bool t') (.slice (some ⟨gd, 0, none⟩) ps.length ps.length))
    replace h83 : ((w7.setCell ⟨g8, 0, none⟩ (.bool t')).setCell ⟨g8, 1, none⟩ (.slice (some ⟨gd, 0, none⟩) ps.length ps.length)).heap[g8]? = _ := set2 h83.out (.bool t') (.slice (some ⟨gd, 0, none⟩) ps.length ps.length)
    replace hL := below2 hL hge8 (.bool t') (.slice (some ⟨gd, 0, none⟩) ps.length ps.length)
    clear hK K hg8 d0 d1 f0 f1
    try simp only [Act.put, List.setIfInBounds_toArray, List.set_cons_zero, List.set_cons_succ]
    generalize (w7.setCell ⟨g8, 0, none⟩ (.bool t')).setCell ⟨g8, 1, none⟩ (.slice (some ⟨gd, 0, none⟩) ps.length ps.length) = w8 at h53 h83 nd hL ⊢
    refine doneT (by kernel_rfl) ?_
    have e1 := block_at h53 (i := 1) (v := .slice (some ⟨gc, 0, none⟩) 0 0) rfl
    have e3 := block_at h83 (i := 1) (v := .slice (some ⟨gd, 0, none⟩) ps.length ps.length) rfl
    replace hL := Lib.hid hL
    replace h53 := Lib.hid h53
    replace h83 := Lib.hid h83
    go_wp2_with fail
    refine (lists_n _ _ _ _ _ _ ps rfl (nd.out.rds hsm.out) (H1.out.belowTop hL.out) (by omega)).mono ?_
    rintro e w9 ⟨rfl, bb⟩
    have hL9 := Lib.hid (hL.out.trans (bb.mono hL.out.size))
    clear bb hL e1 e3
    go_wp2_with fail
    refine (lives_any w9).mono ?_
    rintro e wa ⟨rfl, bb⟩
    have hLa := Lib.hid (hL9.out.trans (bb.mono hL9.out.size))
    clear bb hL9
    go_wp2
    go_ret
    exact ⟨rfl, hLa.out⟩

theorem lawOrder_any (w : World) (A A2 : Option Addr) (c c2 : Nat) (ps : List (List UInt8)) (h : Rds w w.heap.size A c ps) (xs : List UInt8) (h2 : Rd w w.heap.size A2 c2 xs) :
    Calls Try.prog 6 #[.slice A ps.length c, .slice A2 xs.length c2] w (ResB w true) := by
  by_cases hs : SmallP ps 40
  · rcases Nat.lt_or_ge 300 xs.length with hn | hn
    · exact order_many w A A2 c c2 xs.length ps h hs hn
    · exact order_good w A A2 c c2 ps h hs xs h2 hn
  · exact order_small w A A2 c c2 xs.length ps h hs

end Go.Proofs.Ytodbjdpbigboiaa

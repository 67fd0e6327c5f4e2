/-
  The law TogglesClear is walked for any packets and losses; no statement is proved here.
-/
import Derived.Test.YtodbjdpbigboiaaLw4
namespace Go.Proofs.Ytodbjdpbigboiaa
open Go Go.RowKit

set_option maxHeartbeats 800000 in
set_option maxRecDepth 100000 in
theorem clear_small (w : World) (A A2 : Option Addr) (c c2 n2 : Nat) (ps : List (List UInt8)) (h : Rds w w.heap.size A c ps) (hs : ¬ SmallP ps 40) :
    Calls Try.prog 7 #[.slice A ps.length c, .slice A2 n2 c2] w (ResB w true) := by
  have KS := Lib.hid (small_no w A c ps h 40 (by omega) hs)
  go_enter Try.func7, Try.ntmps7
  go_wp2_with fail
  refine KS.out.mono ?_
  rintro e w1 ⟨rfl, rfl⟩
  go_wp2
  go_ret
  exact ⟨rfl, Below.refl _ _⟩
set_option maxHeartbeats 800000 in
set_option maxRecDepth 100000 in
theorem clear_many (w : World) (A A2 : Option Addr) (c c2 n2 : Nat) (ps : List (List UInt8)) (h : Rds w w.heap.size A c ps) (hs : SmallP ps 40) (hn : 300 < n2) :
    Calls Try.prog 7 #[.slice A ps.length c, .slice A2 n2 c2] w (ResB w true) := by
  have KS := Lib.hid (small_yes w A c ps h 40 (by omega) hs)
  have hn' : (300 : Int) < (n2 : Int) := by omega
  go_enter Try.func7, Try.ntmps7
  go_wp2_with fail
  refine KS.out.mono ?_
  rintro e w1 ⟨rfl, rfl⟩
  go_wp2
  go_ret
  exact ⟨rfl, Below.refl _ _⟩

set_option maxHeartbeats 3200000 in
set_option maxRecDepth 100000 in
theorem clear_good (w : World) (A A2 : Option Addr) (c c2 : Nat) (ps : List (List UInt8)) (h : Rds w w.heap.size A c ps) (hs : SmallP ps 40) (xs : List UInt8) (h2 : Rd w w.heap.size A2 c2 xs) (hn : xs.length ≤ 300) :
    Calls Try.prog 7 #[.slice A ps.length c, .slice A2 xs.length c2] w (ResB w true) := by
  have KS := Lib.hid (small_yes w A c ps h 40 (by omega) hs)
  have hn' : ¬ (300 : Int) < (xs.length : Int) := by omega
  have hsm := hs.sml (by omega)
  have KN := Lib.hid (new_good w A c ps h (by have := hs.1; omega) (fun j => by have := hs.all j; omega))
  have hps := hs.1
  have hx0 : SmlP ⟨false, ps, false, []⟩ := ⟨hsm.2, fun j => by simp [List.getD], hsm.1⟩
  have KR : Hid (∀ (W : World) (A A2 : Option Addr) (c c2 : Nat), Rds W W.heap.size A c ps → RdX W W.heap.size A2 c2 (exL xs) → Calls Try.prog 19 #[sv false (.slice A ps.length c), sv false (.slice none 0 0), .slice A2 (exL xs).length c2] W (ResR W (runP ⟨false, ps, false, []⟩ (exL xs)))) := fun W A A2 c c2 h h2 =>
    run_any W ⟨false, ps, false, []⟩ A c none 0 A2 c2 (exL xs) h (Rds.nil _ _) h2 hx0 (by unfold exL; rw [List.length_map]; show 0 + _ ≤ _; omega)
  have KX : Hid (∀ (W : World) (A : Option Addr) (c : Nat), Rd W W.heap.size A c xs → Calls Try.prog 20 #[.slice A xs.length c] W fun e w' => ∃ A' c', e = .returned (.slice A' (exL xs).length c') ∧ RdX w' w'.heap.size A' c' (exL xs) ∧ Below W.heap.size W w') := fun W A c h => exchanges_any W A c xs h (by omega)
  have hinv := (Inv.start ps).run (exL xs)
  have hsy := hx0.run (exL xs)
  obtain ⟨y, hy⟩ : ∃ y, runP ⟨false, ps, false, []⟩ (exL xs) = y := ⟨_, rfl⟩
  rw [hy] at KR hinv hsy
  clear hy
  generalize (exL xs).length = m at KR KX
  generalize exL xs = es at KR KX
  go_enter Try.func7, Try.ntmps7
  go_wp2_with fail
  refine KS.out.mono ?_
  rintro e w1 ⟨rfl, rfl⟩
  go_wp2_with fail
  refine KN.out.mono ?_
  rintro e w1 ⟨g, rfl, hn1, hb1⟩
  go_wp2
  have hw0 := Lib.hid (hb1.alloc hb1.size (.cells #[.bool false, .slice (some ⟨g, 0, none⟩) ps.length ps.length] 28))
  have n0 := Lib.hid (hn1.below ((Below.refl _ _).alloc (Nat.le_refl _) (.cells #[.bool false, .slice (some ⟨g, 0, none⟩) ps.length ps.length] 28)))
  have hb := Lib.hid (heap_alloc_new w1 (.cells #[.bool false, .slice (some ⟨g, 0, none⟩) ps.length ps.length] 28))
  have hge5 := hb1.size
  have H2 := Lib.hid (h2.belowTop hw0.out)
  have H1 := Lib.hid h
  have h1c := Lib.hid h.le
  replace hsm := Lib.hid hsm
  clear hn1 hb1 h h2
  generalize w1.alloc (.cells #[.bool false, .slice (some ⟨g, 0, none⟩) ps.length ps.length] 28) = W0 at hw0 n0 hb H2 ⊢
  generalize w1.heap.size = b5 at hb hge5 ⊢
  have hb5 := block_lt hb.out
  refine region_inv (fun a₀ act w' => ∃ (g8 ga gb : Nat) (v26 v27 v28 v29 v30 v25 v31 v32 : Value),
      act = ((((((((a₀.put (some 27) v26).put (some 28) v27).put (some 29) v28).put (some 30) v29).put (some 31) v30).put (some 26) v25).put (some 32) v31).put (some 33) v32).put (some 7) (.pointer (some ⟨g8, 0, none⟩)) ∧
      Below w.heap.size w w' ∧ w'.heap[b5]? = some (.cells #[.bool y.st, .slice (some ⟨ga, 0, none⟩) y.left.length y.left.length] 28 (0, 0)) ∧ w'.heap[g8]? = some (.cells #[.bool y.rt, .slice (some ⟨gb, 0, none⟩) y.got.length y.got.length] 39 (0, 0)) ∧
      News w' w.heap.size ga y.left ∧ News w' w.heap.size gb y.got ∧ w.heap.size ≤ g8) ?_ ?_
  · have e0 := block_at hb.out (i := 0) (v := .bool false) rfl
    have e1 := block_at hb.out (i := 1) (v := .slice (some ⟨g, 0, none⟩) ps.length ps.length) rfl
    refine startT (S := fun a => a.block = b5) (T := [9]) 11 (by kernel_rfl) rfl (l := #[false, false, false, false, false, false, false, false, false, false, false]) rfl ?_
    have hW : Below W0.heap.size W0 W0.drew := (Below.refl _ _).drew
    ((first | (refine takeT 0 (v := ?_) rfl (by decide +kernel) (by decide +kernel) (by decide +kernel) (fun _ _ _ h => h) (by decide +kernel) (Or.inl ⟨by rfl, ?_⟩) ?_; rotate_left 1; (focus (intro W hW; have hcW := hW.at; (try dsimp only at hcW); go_simp; first | done | with_reducible rfl)); try simp only [Act.put, List.setIfInBounds_toArray, List.set_cons_zero, List.set_cons_succ]) | (refine takeW 0 (v := ?_) rfl (by decide +kernel) (by decide +kernel) (by decide +kernel) (fun _ _ _ h => h) (Or.inl ⟨by rfl, ?_⟩) ?_; rotate_left 1; (focus (intro W hW; go_simp; first | done | with_reducible rfl)); try simp only [Act.put, List.setIfInBounds_toArray, List.set_cons_zero, List.set_cons_succ]) | (refine takeW 0 rfl (by decide +kernel) (by decide +kernel) (by decide +kernel) (fun _ _ _ h => h) (Or.inr ⟨by rfl, rfl⟩) ?_; try simp only [Act.put, List.setIfInBounds_toArray, List.set_cons_zero, List.set_cons_succ]) | skip); (first | (refine takeT 1 (v := ?_) rfl (by decide +kernel) (by decide +kernel) (by decide +kernel) (fun _ _ _ h => h) (by decide +kernel) (Or.inl ⟨by rfl, ?_⟩) ?_; rotate_left 1; (focus (intro W hW; have hcW := hW.at; (try dsimp only at hcW); go_simp; first | done | with_reducible rfl)); try simp only [Act.put, List.setIfInBounds_toArray, List.set_cons_zero, List.set_cons_succ]) | (refine takeW 1 (v := ?_) rfl (by decide +kernel) (by decide +kernel) (by decide +kernel) (fun _ _ _ h => h) (Or.inl ⟨by rfl, ?_⟩) ?_; rotate_left 1; (focus (intro W hW; go_simp; first | done | with_reducible rfl)); try simp only [Act.put, List.setIfInBounds_toArray, List.set_cons_zero, List.set_cons_succ]) | (refine takeW 1 rfl (by decide +kernel) (by decide +kernel) (by decide +kernel) (fun _ _ _ h => h) (Or.inr ⟨by rfl, rfl⟩) ?_; try simp only [Act.put, List.setIfInBounds_toArray, List.set_cons_zero, List.set_cons_succ]) | skip); (first | (refine takeT 2 (v := ?_) rfl (by decide +kernel) (by decide +kernel) (by decide +kernel) (fun _ _ _ h => h) (by decide +kernel) (Or.inl ⟨by rfl, ?_⟩) ?_; rotate_left 1; (focus (intro W hW; have hcW := hW.at; (try dsimp only at hcW); go_simp; first | done | with_reducible rfl)); try simp only [Act.put, List.setIfInBounds_toArray, List.set_cons_zero, List.set_cons_succ]) | (refine takeW 2 (v := ?_) rfl (by decide +kernel) (by decide +kernel) (by decide +kernel) (fun _ _ _ h => h) (Or.inl ⟨by rfl, ?_⟩) ?_; rotate_left 1; (focus (intro W hW; go_simp; first | done | with_reducible rfl)); try simp only [Act.put, List.setIfInBounds_toArray, List.set_cons_zero, List.set_cons_succ]) | (refine takeW 2 rfl (by decide +kernel) (by decide +kernel) (by decide +kernel) (fun _ _ _ h => h) (Or.inr ⟨by rfl, rfl⟩) ?_; try simp only [Act.put, List.setIfInBounds_toArray, List.set_cons_zero, List.set_cons_succ]) | skip))
    generalize W0.drew = v0 at hW ⊢
    clear e0 e1
    -- tree
    refine stepTA [3, 8] (by decide +kernel) (by decide) ?_
    intro i hi
    rcases (by simpa using hi : i = 3 ∨ i = 8) with rfl | rfl
    · clear hi
      refine ⟨_, rfl, by rfl, ?_⟩
      intro K hK
      go_simp
      refine (KX.out v0 A2 c2 (H2.out.below hW |>.more hW.size)).mono ?_
      rintro e v1 ⟨A3, c3, rfl, h3, bb⟩
      replace h3 := Lib.hid h3
      refine hK _ _ (.inr (fun a ha => bb.cell (by rw [ha]; exact Nat.lt_of_lt_of_le hb5 hW.size))) ?_
      replace hW := hW.trans (bb.mono hW.size)
      clear hK K bb
      try simp only [Act.put, List.setIfInBounds_toArray, List.set_cons_zero, List.set_cons_succ]
      refine stepTA [4, 8] (by decide +kernel) (by decide) ?_
      intro i hi
      rcases (by simpa using hi : i = 4 ∨ i = 8) with rfl | rfl
      · clear hi
        refine ⟨_, rfl, by rfl, ?_⟩
        intro K hK
        go_simp
        refine (KR.out v1 _ _ _ _ ((n0.out.rds hsm.out).below hW |>.more hW.size) h3.out).mono ?_
        rintro e v2 ⟨ga, gb, rfl, na, nb, bb⟩
        replace na := Lib.hid (na.mono (base' := w.heap.size) (Nat.le_trans hw0.out.size hW.size))
        replace nb := Lib.hid (nb.mono (base' := w.heap.size) (Nat.le_trans hw0.out.size hW.size))
        refine hK _ _ (.inr (fun a ha => bb.cell (by rw [ha]; exact Nat.lt_of_lt_of_le hb5 hW.size))) ?_
        replace h3 := Lib.hid ((h3.out.below bb).more bb.size)
        replace hW := hW.trans (bb.mono hW.size)
        clear hK K bb
        try simp only [Act.put, List.setIfInBounds_toArray, List.set_cons_zero, List.set_cons_succ]
        ((first | (refine takeT 5 (v := ?_) rfl (by decide +kernel) (by decide +kernel) (by decide +kernel) (fun _ _ _ h => h) (by decide +kernel) (Or.inl ⟨by rfl, ?_⟩) ?_; rotate_left 1; (focus (intro W hW; have hcW := hW.at; (try dsimp only at hcW); go_simp; first | done | with_reducible rfl)); try simp only [Act.put, List.setIfInBounds_toArray, List.set_cons_zero, List.set_cons_succ]) | (refine takeW 5 (v := ?_) rfl (by decide +kernel) (by decide +kernel) (by decide +kernel) (fun _ _ _ h => h) (Or.inl ⟨by rfl, ?_⟩) ?_; rotate_left 1; (focus (intro W hW; go_simp; first | done | with_reducible rfl)); try simp only [Act.put, List.setIfInBounds_toArray, List.set_cons_zero, List.set_cons_succ]) | (refine takeW 5 rfl (by decide +kernel) (by decide +kernel) (by decide +kernel) (fun _ _ _ h => h) (Or.inr ⟨by rfl, rfl⟩) ?_; try simp only [Act.put, List.setIfInBounds_toArray, List.set_cons_zero, List.set_cons_succ]) | skip); (first | (refine takeT 6 (v := ?_) rfl (by decide +kernel) (by decide +kernel) (by decide +kernel) (fun _ _ _ h => h) (by decide +kernel) (Or.inl ⟨by rfl, ?_⟩) ?_; rotate_left 1; (focus (intro W hW; have hcW := hW.at; (try dsimp only at hcW); go_simp; first | done | with_reducible rfl)); try simp only [Act.put, List.setIfInBounds_toArray, List.set_cons_zero, List.set_cons_succ]) | (refine takeW 6 (v := ?_) rfl (by decide +kernel) (by decide +kernel) (by decide +kernel) (fun _ _ _ h => h) (Or.inl ⟨by rfl, ?_⟩) ?_; rotate_left 1; (focus (intro W hW; go_simp; first | done | with_reducible rfl)); try simp only [Act.put, List.setIfInBounds_toArray, List.set_cons_zero, List.set_cons_succ]) | (refine takeW 6 rfl (by decide +kernel) (by decide +kernel) (by decide +kernel) (fun _ _ _ h => h) (Or.inr ⟨by rfl, rfl⟩) ?_; try simp only [Act.put, List.setIfInBounds_toArray, List.set_cons_zero, List.set_cons_succ]) | skip); (first | (refine takeT 7 (v := ?_) rfl (by decide +kernel) (by decide +kernel) (by decide +kernel) (fun _ _ _ h => h) (by decide +kernel) (Or.inl ⟨by rfl, ?_⟩) ?_; rotate_left 1; (focus (intro W hW; have hcW := hW.at; (try dsimp only at hcW); go_simp; first | done | with_reducible rfl)); try simp only [Act.put, List.setIfInBounds_toArray, List.set_cons_zero, List.set_cons_succ]) | (refine takeW 7 (v := ?_) rfl (by decide +kernel) (by decide +kernel) (by decide +kernel) (fun _ _ _ h => h) (Or.inl ⟨by rfl, ?_⟩) ?_; rotate_left 1; (focus (intro W hW; go_simp; first | done | with_reducible rfl)); try simp only [Act.put, List.setIfInBounds_toArray, List.set_cons_zero, List.set_cons_succ]) | (refine takeW 7 rfl (by decide +kernel) (by decide +kernel) (by decide +kernel) (fun _ _ _ h => h) (Or.inr ⟨by rfl, rfl⟩) ?_; try simp only [Act.put, List.setIfInBounds_toArray, List.set_cons_zero, List.set_cons_succ]) | skip))
        refine stepTA [8] (by decide +kernel) (by decide) ?_
        intro i hi
        obtain rfl : i = 8 := by simpa using hi
        clear hi
        refine ⟨_, rfl, by rfl, ?_⟩
        intro K hK
        go_simp
        have bb := (Below.refl v2.heap.size v2).alloc (Nat.le_refl _) (.cells #[.bool false, .slice none 0 0] 39)
        refine hK _ _ (.inr (fun a ha => bb.cell (by rw [ha]; exact Nat.lt_of_lt_of_le hb5 hW.size))) ?_
        have h8 := Lib.hid (heap_alloc_new v2 (.cells #[.bool false, .slice none 0 0] 39))
        have lh8 := hW.size
        replace h3 := Lib.hid ((h3.out.below bb).more bb.size)
        replace na := Lib.hid (na.out.below bb)
        replace nb := Lib.hid (nb.out.below bb)
        replace hW := hW.trans (bb.mono hW.size)
        clear hK K bb
        try simp only [Act.put, List.setIfInBounds_toArray, List.set_cons_zero, List.set_cons_succ]
        generalize v2.alloc (.cells #[.bool false, .slice none 0 0] 39) = v3 at hW h3 na nb h8 ⊢
        generalize v2.heap.size = g8 at h8 lh8 ⊢
        have h5 := (hW.block _ hb5).trans hb.out
        have n58 := block_ne h5 h8.out (by decide)
        have hwW := hw0.out.trans (hW.mono hw0.out.size)
        have d0 := block_at h5 (i := 0) (v := .bool false) rfl
        have d1 := block_at h5 (i := 1) (v := .slice (some ⟨g, 0, none⟩) ps.length ps.length) rfl
        have f0 := block_free h5 0
        have f1 := block_free h5 1
        replace h5 := Lib.hid h5
        refine stepT 9 rfl (by decide +kernel) (by rfl) ?_
        intro K hK
        go_simp
        have hg5 := grown_trans (grown_setCell v3 ⟨b5, 0, none⟩ (.bool y.st)) (grown_setCell (v3.setCell ⟨b5, 0, none⟩ (.bool y.st)) ⟨b5, 1, none⟩ (.slice (some ⟨ga, 0, none⟩) y.left.length y.left.length))
        refine hK _ _ (.inl (by decide)) ?_
        replace h8 := Lib.hid (block_grown h8.out hg5 (fun e => n58 (Option.some.inj e).symm))
        replace na := Lib.hid (na.out.stores2 h5.out (by decide) (by decide) (.bool y.st) (.slice (some ⟨ga, 0, none⟩) y.left.length y.left.length))
        replace nb := Lib.hid (nb.out.stores2 h5.out (by decide) (by decide) (.bool y.st) (.slice (some ⟨ga, 0, none⟩) y.left.length y.left.length))
        replace h5 : Hid (((v3.setCell ⟨b5, 0, none⟩ (.bool y.st)).setCell ⟨b5, 1, none⟩ (.slice (some ⟨ga, 0, none⟩) y.left.length y.left.length)).heap[b5]? = _) := set2 h5.out (.bool y.st) (.slice (some ⟨ga, 0, none⟩) y.left.length y.left.length)
        replace hwW := below2 hwW hge5 (.bool y.st) (.slice (some ⟨ga, 0, none⟩) y.left.length y.left.length)
        clear hK K hg5 d0 d1 f0 f1
        try simp only [Act.put, List.setIfInBounds_toArray, List.set_cons_zero, List.set_cons_succ]
        generalize ((v3.setCell ⟨b5, 0, none⟩ (.bool y.st)).setCell ⟨b5, 1, none⟩ (.slice (some ⟨ga, 0, none⟩) y.left.length y.left.length)) = wx at h5 h8 na nb hwW ⊢
        have d0 := block_at h8.out (i := 0) (v := .bool false) rfl
        have d1 := block_at h8.out (i := 1) (v := .slice none 0 0) rfl
        have f0 := block_free h8.out 0
        have f1 := block_free h8.out 1
        refine stepT 10 rfl (by decide +kernel) (by rfl) ?_
        intro K hK
        go_simp
        have hg8 := grown_trans (grown_setCell wx ⟨g8, 0, none⟩ (.bool y.rt)) (grown_setCell (wx.setCell ⟨g8, 0, none⟩ (.bool y.rt)) ⟨g8, 1, none⟩ (.slice (some ⟨gb, 0, none⟩) y.got.length y.got.length))
        refine hK _ _ (.inr fun a ha => World.cell?_of_block (hg8.block _ (by rw [ha]; exact block_lt h5.out) (by rw [ha]; exact fun e => n58 (Option.some.inj e)))) ?_
        replace h5 := Lib.hid (block_grown h5.out hg8 (fun e => n58 (Option.some.inj e)))
        replace na := Lib.hid (na.out.stores2 h8.out (by decide) (by decide) (.bool y.rt) (.slice (some ⟨gb, 0, none⟩) y.got.length y.got.length))
        replace nb := Lib.hid (nb.out.stores2 h8.out (by decide) (by decide) (.bool y.rt) (.slice (some ⟨gb, 0, none⟩) y.got.length y.got.length))
        replace h8 : Hid (((wx.setCell ⟨g8, 0, none⟩ (.bool y.rt)).setCell ⟨g8, 1, none⟩ (.slice (some ⟨gb, 0, none⟩) y.got.length y.got.length)).heap[g8]? = _) := set2 h8.out (.bool y.rt) (.slice (some ⟨gb, 0, none⟩) y.got.length y.got.length)
        replace hwW := below2 hwW (Nat.le_trans hw0.out.size lh8) (.bool y.rt) (.slice (some ⟨gb, 0, none⟩) y.got.length y.got.length)
        clear hK K hg8 d0 d1 f0 f1
        refine doneT (by kernel_rfl) ?_
        exact ⟨g8, ga, gb, _, _, _, _, _, _, _, _, rfl, hwW, h5.out, h8.out, na.out, nb.out, Nat.le_trans hw0.out.size lh8⟩
      · clear hi
        refine ⟨_, rfl, by rfl, ?_⟩
        intro K hK
        go_simp
        have bb := (Below.refl v1.heap.size v1).alloc (Nat.le_refl _) (.cells #[.bool false, .slice none 0 0] 39)
        refine hK _ _ (.inr (fun a ha => bb.cell (by rw [ha]; exact Nat.lt_of_lt_of_le hb5 hW.size))) ?_
        have h8 := Lib.hid (heap_alloc_new v1 (.cells #[.bool false, .slice none 0 0] 39))
        have lh8 := hW.size
        replace h3 := Lib.hid ((h3.out.below bb).more bb.size)
        replace hW := hW.trans (bb.mono hW.size)
        clear hK K bb
        try simp only [Act.put, List.setIfInBounds_toArray, List.set_cons_zero, List.set_cons_succ]
        generalize v1.alloc (.cells #[.bool false, .slice none 0 0] 39) = v4 at hW h3 h8 ⊢
        generalize v1.heap.size = g8 at h8 lh8 ⊢
        refine stepTA [4] (by decide +kernel) (by decide) ?_
        intro i hi
        obtain rfl : i = 4 := by simpa using hi
        clear hi
        refine ⟨_, rfl, by rfl, ?_⟩
        intro K hK
        go_simp
        refine (KR.out v4 _ _ _ _ ((n0.out.rds hsm.out).below hW |>.more hW.size) h3.out).mono ?_
        rintro e v5 ⟨ga, gb, rfl, na, nb, bb⟩
        replace na := Lib.hid (na.mono (base' := w.heap.size) (Nat.le_trans hw0.out.size hW.size))
        replace nb := Lib.hid (nb.mono (base' := w.heap.size) (Nat.le_trans hw0.out.size hW.size))
        refine hK _ _ (.inr (fun a ha => bb.cell (by rw [ha]; exact Nat.lt_of_lt_of_le hb5 hW.size))) ?_
        replace h3 := Lib.hid ((h3.out.below bb).more bb.size)
        replace h8 := Lib.hid ((bb.block _ (block_lt h8.out)).trans h8.out)
        replace hW := hW.trans (bb.mono hW.size)
        clear hK K bb
        try simp only [Act.put, List.setIfInBounds_toArray, List.set_cons_zero, List.set_cons_succ]
        ((first | (refine takeT 5 (v := ?_) rfl (by decide +kernel) (by decide +kernel) (by decide +kernel) (fun _ _ _ h => h) (by decide +kernel) (Or.inl ⟨by rfl, ?_⟩) ?_; rotate_left 1; (focus (intro W hW; have hcW := hW.at; (try dsimp only at hcW); go_simp; first | done | with_reducible rfl)); try simp only [Act.put, List.setIfInBounds_toArray, List.set_cons_zero, List.set_cons_succ]) | (refine takeW 5 (v := ?_) rfl (by decide +kernel) (by decide +kernel) (by decide +kernel) (fun _ _ _ h => h) (Or.inl ⟨by rfl, ?_⟩) ?_; rotate_left 1; (focus (intro W hW; go_simp; first | done | with_reducible rfl)); try simp only [Act.put, List.setIfInBounds_toArray, List.set_cons_zero, List.set_cons_succ]) | (refine takeW 5 rfl (by decide +kernel) (by decide +kernel) (by decide +kernel) (fun _ _ _ h => h) (Or.inr ⟨by rfl, rfl⟩) ?_; try simp only [Act.put, List.setIfInBounds_toArray, List.set_cons_zero, List.set_cons_succ]) | skip); (first | (refine takeT 6 (v := ?_) rfl (by decide +kernel) (by decide +kernel) (by decide +kernel) (fun _ _ _ h => h) (by decide +kernel) (Or.inl ⟨by rfl, ?_⟩) ?_; rotate_left 1; (focus (intro W hW; have hcW := hW.at; (try dsimp only at hcW); go_simp; first | done | with_reducible rfl)); try simp only [Act.put, List.setIfInBounds_toArray, List.set_cons_zero, List.set_cons_succ]) | (refine takeW 6 (v := ?_) rfl (by decide +kernel) (by decide +kernel) (by decide +kernel) (fun _ _ _ h => h) (Or.inl ⟨by rfl, ?_⟩) ?_; rotate_left 1; (focus (intro W hW; go_simp; first | done | with_reducible rfl)); try simp only [Act.put, List.setIfInBounds_toArray, List.set_cons_zero, List.set_cons_succ]) | (refine takeW 6 rfl (by decide +kernel) (by decide +kernel) (by decide +kernel) (fun _ _ _ h => h) (Or.inr ⟨by rfl, rfl⟩) ?_; try simp only [Act.put, List.setIfInBounds_toArray, List.set_cons_zero, List.set_cons_succ]) | skip); (first | (refine takeT 7 (v := ?_) rfl (by decide +kernel) (by decide +kernel) (by decide +kernel) (fun _ _ _ h => h) (by decide +kernel) (Or.inl ⟨by rfl, ?_⟩) ?_; rotate_left 1; (focus (intro W hW; have hcW := hW.at; (try dsimp only at hcW); go_simp; first | done | with_reducible rfl)); try simp only [Act.put, List.setIfInBounds_toArray, List.set_cons_zero, List.set_cons_succ]) | (refine takeW 7 (v := ?_) rfl (by decide +kernel) (by decide +kernel) (by decide +kernel) (fun _ _ _ h => h) (Or.inl ⟨by rfl, ?_⟩) ?_; rotate_left 1; (focus (intro W hW; go_simp; first | done | with_reducible rfl)); try simp only [Act.put, List.setIfInBounds_toArray, List.set_cons_zero, List.set_cons_succ]) | (refine takeW 7 rfl (by decide +kernel) (by decide +kernel) (by decide +kernel) (fun _ _ _ h => h) (Or.inr ⟨by rfl, rfl⟩) ?_; try simp only [Act.put, List.setIfInBounds_toArray, List.set_cons_zero, List.set_cons_succ]) | skip))
        have h5 := (hW.block _ hb5).trans hb.out
        have n58 := block_ne h5 h8.out (by decide)
        have hwW := hw0.out.trans (hW.mono hw0.out.size)
        have d0 := block_at h5 (i := 0) (v := .bool false) rfl
        have d1 := block_at h5 (i := 1) (v := .slice (some ⟨g, 0, none⟩) ps.length ps.length) rfl
        have f0 := block_free h5 0
        have f1 := block_free h5 1
        replace h5 := Lib.hid h5
        refine stepT 9 rfl (by decide +kernel) (by rfl) ?_
        intro K hK
        go_simp
        have hg5 := grown_trans (grown_setCell v5 ⟨b5, 0, none⟩ (.bool y.st)) (grown_setCell (v5.setCell ⟨b5, 0, none⟩ (.bool y.st)) ⟨b5, 1, none⟩ (.slice (some ⟨ga, 0, none⟩) y.left.length y.left.length))
        refine hK _ _ (.inl (by decide)) ?_
        replace h8 := Lib.hid (block_grown h8.out hg5 (fun e => n58 (Option.some.inj e).symm))
        replace na := Lib.hid (na.out.stores2 h5.out (by decide) (by decide) (.bool y.st) (.slice (some ⟨ga, 0, none⟩) y.left.length y.left.length))
        replace nb := Lib.hid (nb.out.stores2 h5.out (by decide) (by decide) (.bool y.st) (.slice (some ⟨ga, 0, none⟩) y.left.length y.left.length))
        replace h5 : Hid (((v5.setCell ⟨b5, 0, none⟩ (.bool y.st)).setCell ⟨b5, 1, none⟩ (.slice (some ⟨ga, 0, none⟩) y.left.length y.left.length)).heap[b5]? = _) := set2 h5.out (.bool y.st) (.slice (some ⟨ga, 0, none⟩) y.left.length y.left.length)
        replace hwW := below2 hwW hge5 (.bool y.st) (.slice (some ⟨ga, 0, none⟩) y.left.length y.left.length)
        clear hK K hg5 d0 d1 f0 f1
        try simp only [Act.put, List.setIfInBounds_toArray, List.set_cons_zero, List.set_cons_succ]
        generalize ((v5.setCell ⟨b5, 0, none⟩ (.bool y.st)).setCell ⟨b5, 1, none⟩ (.slice (some ⟨ga, 0, none⟩) y.left.length y.left.length)) = wx at h5 h8 na nb hwW ⊢
        have d0 := block_at h8.out (i := 0) (v := .bool false) rfl
        have d1 := block_at h8.out (i := 1) (v := .slice none 0 0) rfl
        have f0 := block_free h8.out 0
        have f1 := block_free h8.out 1
        refine stepT 10 rfl (by decide +kernel) (by rfl) ?_
        intro K hK
        go_simp
        have hg8 := grown_trans (grown_setCell wx ⟨g8, 0, none⟩ (.bool y.rt)) (grown_setCell (wx.setCell ⟨g8, 0, none⟩ (.bool y.rt)) ⟨g8, 1, none⟩ (.slice (some ⟨gb, 0, none⟩) y.got.length y.got.length))
        refine hK _ _ (.inr fun a ha => World.cell?_of_block (hg8.block _ (by rw [ha]; exact block_lt h5.out) (by rw [ha]; exact fun e => n58 (Option.some.inj e)))) ?_
        replace h5 := Lib.hid (block_grown h5.out hg8 (fun e => n58 (Option.some.inj e)))
        replace na := Lib.hid (na.out.stores2 h8.out (by decide) (by decide) (.bool y.rt) (.slice (some ⟨gb, 0, none⟩) y.got.length y.got.length))
        replace nb := Lib.hid (nb.out.stores2 h8.out (by decide) (by decide) (.bool y.rt) (.slice (some ⟨gb, 0, none⟩) y.got.length y.got.length))
        replace h8 : Hid (((wx.setCell ⟨g8, 0, none⟩ (.bool y.rt)).setCell ⟨g8, 1, none⟩ (.slice (some ⟨gb, 0, none⟩) y.got.length y.got.length)).heap[g8]? = _) := set2 h8.out (.bool y.rt) (.slice (some ⟨gb, 0, none⟩) y.got.length y.got.length)
        replace hwW := below2 hwW (Nat.le_trans hw0.out.size lh8) (.bool y.rt) (.slice (some ⟨gb, 0, none⟩) y.got.length y.got.length)
        clear hK K hg8 d0 d1 f0 f1
        refine doneT (by kernel_rfl) ?_
        exact ⟨g8, ga, gb, _, _, _, _, _, _, _, _, rfl, hwW, h5.out, h8.out, na.out, nb.out, Nat.le_trans hw0.out.size lh8⟩
    · clear hi
      refine ⟨_, rfl, by rfl, ?_⟩
      intro K hK
      go_simp
      have bb := (Below.refl v0.heap.size v0).alloc (Nat.le_refl _) (.cells #[.bool false, .slice none 0 0] 39)
      refine hK _ _ (.inr (fun a ha => bb.cell (by rw [ha]; exact Nat.lt_of_lt_of_le hb5 hW.size))) ?_
      have h8 := Lib.hid (heap_alloc_new v0 (.cells #[.bool false, .slice none 0 0] 39))
      have lh8 := hW.size
      replace hW := hW.trans (bb.mono hW.size)
      clear hK K bb
      try simp only [Act.put, List.setIfInBounds_toArray, List.set_cons_zero, List.set_cons_succ]
      generalize v0.alloc (.cells #[.bool false, .slice none 0 0] 39) = v6 at hW h8 ⊢
      generalize v0.heap.size = g8 at h8 lh8 ⊢
      refine stepTA [3] (by decide +kernel) (by decide) ?_
      intro i hi
      obtain rfl : i = 3 := by simpa using hi
      clear hi
      refine ⟨_, rfl, by rfl, ?_⟩
      intro K hK
      go_simp
      refine (KX.out v6 A2 c2 (H2.out.below hW |>.more hW.size)).mono ?_
      rintro e v7 ⟨A3, c3, rfl, h3, bb⟩
      replace h3 := Lib.hid h3
      refine hK _ _ (.inr (fun a ha => bb.cell (by rw [ha]; exact Nat.lt_of_lt_of_le hb5 hW.size))) ?_
      replace h8 := Lib.hid ((bb.block _ (block_lt h8.out)).trans h8.out)
      replace hW := hW.trans (bb.mono hW.size)
      clear hK K bb
      try simp only [Act.put, List.setIfInBounds_toArray, List.set_cons_zero, List.set_cons_succ]
      refine stepTA [4] (by decide +kernel) (by decide) ?_
      intro i hi
      obtain rfl : i = 4 := by simpa using hi
      clear hi
      refine ⟨_, rfl, by rfl, ?_⟩
      intro K hK
      go_simp
      refine (KR.out v7 _ _ _ _ ((n0.out.rds hsm.out).below hW |>.more hW.size) h3.out).mono ?_
      rintro e v8 ⟨ga, gb, rfl, na, nb, bb⟩
      replace na := Lib.hid (na.mono (base' := w.heap.size) (Nat.le_trans hw0.out.size hW.size))
      replace nb := Lib.hid (nb.mono (base' := w.heap.size) (Nat.le_trans hw0.out.size hW.size))
      refine hK _ _ (.inr (fun a ha => bb.cell (by rw [ha]; exact Nat.lt_of_lt_of_le hb5 hW.size))) ?_
      replace h8 := Lib.hid ((bb.block _ (block_lt h8.out)).trans h8.out)
      replace h3 := Lib.hid ((h3.out.below bb).more bb.size)
      replace hW := hW.trans (bb.mono hW.size)
      clear hK K bb
      try simp only [Act.put, List.setIfInBounds_toArray, List.set_cons_zero, List.set_cons_succ]
      ((first | (refine takeT 5 (v := ?_) rfl (by decide +kernel) (by decide +kernel) (by decide +kernel) (fun _ _ _ h => h) (by decide +kernel) (Or.inl ⟨by rfl, ?_⟩) ?_; rotate_left 1; (focus (intro W hW; have hcW := hW.at; (try dsimp only at hcW); go_simp; first | done | with_reducible rfl)); try simp only [Act.put, List.setIfInBounds_toArray, List.set_cons_zero, List.set_cons_succ]) | (refine takeW 5 (v := ?_) rfl (by decide +kernel) (by decide +kernel) (by decide +kernel) (fun _ _ _ h => h) (Or.inl ⟨by rfl, ?_⟩) ?_; rotate_left 1; (focus (intro W hW; go_simp; first | done | with_reducible rfl)); try simp only [Act.put, List.setIfInBounds_toArray, List.set_cons_zero, List.set_cons_succ]) | (refine takeW 5 rfl (by decide +kernel) (by decide +kernel) (by decide +kernel) (fun _ _ _ h => h) (Or.inr ⟨by rfl, rfl⟩) ?_; try simp only [Act.put, List.setIfInBounds_toArray, List.set_cons_zero, List.set_cons_succ]) | skip); (first | (refine takeT 6 (v := ?_) rfl (by decide +kernel) (by decide +kernel) (by decide +kernel) (fun _ _ _ h => h) (by decide +kernel) (Or.inl ⟨by rfl, ?_⟩) ?_; rotate_left 1; (focus (intro W hW; have hcW := hW.at; (try dsimp only at hcW); go_simp; first | done | with_reducible rfl)); try simp only [Act.put, List.setIfInBounds_toArray, List.set_cons_zero, List.set_cons_succ]) | (refine takeW 6 (v := ?_) rfl (by decide +kernel) (by decide +kernel) (by decide +kernel) (fun _ _ _ h => h) (Or.inl ⟨by rfl, ?_⟩) ?_; rotate_left 1; (focus (intro W hW; go_simp; first | done | with_reducible rfl)); try simp only [Act.put, List.setIfInBounds_toArray, List.set_cons_zero, List.set_cons_succ]) | (refine takeW 6 rfl (by decide +kernel) (by decide +kernel) (by decide +kernel) (fun _ _ _ h => h) (Or.inr ⟨by rfl, rfl⟩) ?_; try simp only [Act.put, List.setIfInBounds_toArray, List.set_cons_zero, List.set_cons_succ]) | skip); (first | (refine takeT 7 (v := ?_) rfl (by decide +kernel) (by decide +kernel) (by decide +kernel) (fun _ _ _ h => h) (by decide +kernel) (Or.inl ⟨by rfl, ?_⟩) ?_; rotate_left 1; (focus (intro W hW; have hcW := hW.at; (try dsimp only at hcW); go_simp; first | done | with_reducible rfl)); try simp only [Act.put, List.setIfInBounds_toArray, List.set_cons_zero, List.set_cons_succ]) | (refine takeW 7 (v := ?_) rfl (by decide +kernel) (by decide +kernel) (by decide +kernel) (fun _ _ _ h => h) (Or.inl ⟨by rfl, ?_⟩) ?_; rotate_left 1; (focus (intro W hW; go_simp; first | done | with_reducible rfl)); try simp only [Act.put, List.setIfInBounds_toArray, List.set_cons_zero, List.set_cons_succ]) | (refine takeW 7 rfl (by decide +kernel) (by decide +kernel) (by decide +kernel) (fun _ _ _ h => h) (Or.inr ⟨by rfl, rfl⟩) ?_; try simp only [Act.put, List.setIfInBounds_toArray, List.set_cons_zero, List.set_cons_succ]) | skip))
      have h5 := (hW.block _ hb5).trans hb.out
      have n58 := block_ne h5 h8.out (by decide)
      have hwW := hw0.out.trans (hW.mono hw0.out.size)
      have d0 := block_at h5 (i := 0) (v := .bool false) rfl
      have d1 := block_at h5 (i := 1) (v := .slice (some ⟨g, 0, none⟩) ps.length ps.length) rfl
      have f0 := block_free h5 0
      have f1 := block_free h5 1
      replace h5 := Lib.hid h5
      refine stepT 9 rfl (by decide +kernel) (by rfl) ?_
      intro K hK
      go_simp
      have hg5 := grown_trans (grown_setCell v8 ⟨b5, 0, none⟩ (.bool y.st)) (grown_setCell (v8.setCell ⟨b5, 0, none⟩ (.bool y.st)) ⟨b5, 1, none⟩ (.slice (some ⟨ga, 0, none⟩) y.left.length y.left.length))
      refine hK _ _ (.inl (by decide)) ?_
      replace h8 := Lib.hid (block_grown h8.out hg5 (fun e => n58 (Option.some.inj e).symm))
      replace na := Lib.hid (na.out.stores2 h5.out (by decide) (by decide) (.bool y.st) (.slice (some ⟨ga, 0, none⟩) y.left.length y.left.length))
      replace nb := Lib.hid (nb.out.stores2 h5.out (by decide) (by decide) (.bool y.st) (.slice (some ⟨ga, 0, none⟩) y.left.length y.left.length))
      replace h5 : Hid (((v8.setCell ⟨b5, 0, none⟩ (.bool y.st)).setCell ⟨b5, 1, none⟩ (.slice (some ⟨ga, 0, none⟩) y.left.length y.left.length)).heap[b5]? = _) := set2 h5.out (.bool y.st) (.slice (some ⟨ga, 0, none⟩) y.left.length y.left.length)
      replace hwW := below2 hwW hge5 (.bool y.st) (.slice (some ⟨ga, 0, none⟩) y.left.length y.left.length)
      clear hK K hg5 d0 d1 f0 f1
      try simp only [Act.put, List.setIfInBounds_toArray, List.set_cons_zero, List.set_cons_succ]
      generalize ((v8.setCell ⟨b5, 0, none⟩ (.bool y.st)).setCell ⟨b5, 1, none⟩ (.slice (some ⟨ga, 0, none⟩) y.left.length y.left.length)) = wx at h5 h8 na nb hwW ⊢
      have d0 := block_at h8.out (i := 0) (v := .bool false) rfl
      have d1 := block_at h8.out (i := 1) (v := .slice none 0 0) rfl
      have f0 := block_free h8.out 0
      have f1 := block_free h8.out 1
      refine stepT 10 rfl (by decide +kernel) (by rfl) ?_
      intro K hK
      go_simp
      have hg8 := grown_trans (grown_setCell wx ⟨g8, 0, none⟩ (.bool y.rt)) (grown_setCell (wx.setCell ⟨g8, 0, none⟩ (.bool y.rt)) ⟨g8, 1, none⟩ (.slice (some ⟨gb, 0, none⟩) y.got.length y.got.length))
      refine hK _ _ (.inr fun a ha => World.cell?_of_block (hg8.block _ (by rw [ha]; exact block_lt h5.out) (by rw [ha]; exact fun e => n58 (Option.some.inj e)))) ?_
      replace h5 := Lib.hid (block_grown h5.out hg8 (fun e => n58 (Option.some.inj e)))
      replace na := Lib.hid (na.out.stores2 h8.out (by decide) (by decide) (.bool y.rt) (.slice (some ⟨gb, 0, none⟩) y.got.length y.got.length))
      replace nb := Lib.hid (nb.out.stores2 h8.out (by decide) (by decide) (.bool y.rt) (.slice (some ⟨gb, 0, none⟩) y.got.length y.got.length))
      replace h8 : Hid (((wx.setCell ⟨g8, 0, none⟩ (.bool y.rt)).setCell ⟨g8, 1, none⟩ (.slice (some ⟨gb, 0, none⟩) y.got.length y.got.length)).heap[g8]? = _) := set2 h8.out (.bool y.rt) (.slice (some ⟨gb, 0, none⟩) y.got.length y.got.length)
      replace hwW := below2 hwW (Nat.le_trans hw0.out.size lh8) (.bool y.rt) (.slice (some ⟨gb, 0, none⟩) y.got.length y.got.length)
      clear hK K hg8 d0 d1 f0 f1
      refine doneT (by kernel_rfl) ?_
      exact ⟨g8, ga, gb, _, _, _, _, _, _, _, _, rfl, hwW, h5.out, h8.out, na.out, nb.out, Nat.le_trans hw0.out.size lh8⟩
    -- end of tree
  · rintro act w2 ⟨g8, ga, gb, v26, v27, v28, v29, v30, v25, v31, v32, rfl, hW, h5, h8, na, nb, hge8⟩
    have hge := hge5
    clear hb hb5 hw0 n0 H2 hge5 KR KX KN KS
    clear W0
    have hnum := hinv.numbers
    obtain ⟨m1, m2, m3, m4, m5, m6⟩ := hnum
    have e0 := block_at h5 (i := 0) (v := .bool y.st) rfl
    have e1 := block_at h5 (i := 1) (v := .slice (some ⟨ga, 0, none⟩) y.left.length y.left.length) rfl
    have e2 := block_at h8 (i := 0) (v := .bool y.rt) rfl
    have e3 := block_at h8 (i := 1) (v := .slice (some ⟨gb, 0, none⟩) y.got.length y.got.length) rfl
    have hb5 := block_lt h5
    have hb8 := block_lt h8
    replace h5 := Lib.hid h5
    replace h8 := Lib.hid h8
    replace na := Lib.hid na
    replace nb := Lib.hid nb
    obtain ⟨dn, hdn⟩ : ∃ dn, ps.length = y.left.length + dn := ⟨ps.length - y.left.length, by omega⟩
    have hwr : IntKind.i64.wrap ((ps.length : Int) - (y.left.length : Int)) = (dn : Int) := by simp only [IntKind.wrap_i64]; omega
    have hdd : ps.length - y.left.length = dn := by omega
    rw [hdd] at m2 m3 m6
    replace hdn := Lib.hid hdn
    replace m5 := Lib.hid m5
    replace m6 := Lib.hid m6
    have hW3 := Lib.hid hW
    have H3 := Lib.hid (H1.out.below hW)
    clear hdd hW
    go_wp2
    refine startT (S := fun a => a.block = b5 ∨ a.block = g8) (T := []) 11 (by kernel_rfl) rfl (l := #[false, false, false, false, false, false, false, false, false, false, false]) rfl ?_
    ((first | (refine takeT 0 (v := ?_) rfl (by decide +kernel) (by decide +kernel) (by decide +kernel) (fun _ _ _ h => h) (by decide +kernel) (Or.inl ⟨by rfl, ?_⟩) ?_; rotate_left 1; (focus (intro W hW; have hcW := hW.at; (try dsimp only at hcW); go_simp; first | done | with_reducible rfl)); try simp only [Act.put, List.setIfInBounds_toArray, List.set_cons_zero, List.set_cons_succ]) | (refine takeW 0 (v := ?_) rfl (by decide +kernel) (by decide +kernel) (by decide +kernel) (fun _ _ _ h => h) (Or.inl ⟨by rfl, ?_⟩) ?_; rotate_left 1; (focus (intro W hW; go_simp; first | done | with_reducible rfl)); try simp only [Act.put, List.setIfInBounds_toArray, List.set_cons_zero, List.set_cons_succ]) | (refine takeW 0 rfl (by decide +kernel) (by decide +kernel) (by decide +kernel) (fun _ _ _ h => h) (Or.inr ⟨by rfl, rfl⟩) ?_; try simp only [Act.put, List.setIfInBounds_toArray, List.set_cons_zero, List.set_cons_succ]) | skip); (first | (refine takeT 1 (v := ?_) rfl (by decide +kernel) (by decide +kernel) (by decide +kernel) (fun _ _ _ h => h) (by decide +kernel) (Or.inl ⟨by rfl, ?_⟩) ?_; rotate_left 1; (focus (intro W hW; have hcW := hW.at; (try dsimp only at hcW); go_simp; first | done | with_reducible rfl)); try simp only [Act.put, List.setIfInBounds_toArray, List.set_cons_zero, List.set_cons_succ]) | (refine takeW 1 (v := ?_) rfl (by decide +kernel) (by decide +kernel) (by decide +kernel) (fun _ _ _ h => h) (Or.inl ⟨by rfl, ?_⟩) ?_; rotate_left 1; (focus (intro W hW; go_simp; first | done | with_reducible rfl)); try simp only [Act.put, List.setIfInBounds_toArray, List.set_cons_zero, List.set_cons_succ]) | (refine takeW 1 rfl (by decide +kernel) (by decide +kernel) (by decide +kernel) (fun _ _ _ h => h) (Or.inr ⟨by rfl, rfl⟩) ?_; try simp only [Act.put, List.setIfInBounds_toArray, List.set_cons_zero, List.set_cons_succ]) | skip); (first | (refine takeT 2 (v := ?_) rfl (by decide +kernel) (by decide +kernel) (by decide +kernel) (fun _ _ _ h => h) (by decide +kernel) (Or.inl ⟨by rfl, ?_⟩) ?_; rotate_left 1; (focus (intro W hW; have hcW := hW.at; (try dsimp only at hcW); go_simp; first | done | with_reducible rfl)); try simp only [Act.put, List.setIfInBounds_toArray, List.set_cons_zero, List.set_cons_succ]) | (refine takeW 2 (v := ?_) rfl (by decide +kernel) (by decide +kernel) (by decide +kernel) (fun _ _ _ h => h) (Or.inl ⟨by rfl, ?_⟩) ?_; rotate_left 1; (focus (intro W hW; go_simp; first | done | with_reducible rfl)); try simp only [Act.put, List.setIfInBounds_toArray, List.set_cons_zero, List.set_cons_succ]) | (refine takeW 2 rfl (by decide +kernel) (by decide +kernel) (by decide +kernel) (fun _ _ _ h => h) (Or.inr ⟨by rfl, rfl⟩) ?_; try simp only [Act.put, List.setIfInBounds_toArray, List.set_cons_zero, List.set_cons_succ]) | skip); (first | (refine takeT 3 (v := ?_) rfl (by decide +kernel) (by decide +kernel) (by decide +kernel) (fun _ _ _ h => h) (by decide +kernel) (Or.inl ⟨by rfl, ?_⟩) ?_; rotate_left 1; (focus (intro W hW; have hcW := hW.at; (try dsimp only at hcW); go_simp; first | done | with_reducible rfl)); try simp only [Act.put, List.setIfInBounds_toArray, List.set_cons_zero, List.set_cons_succ]) | (refine takeW 3 (v := ?_) rfl (by decide +kernel) (by decide +kernel) (by decide +kernel) (fun _ _ _ h => h) (Or.inl ⟨by rfl, ?_⟩) ?_; rotate_left 1; (focus (intro W hW; go_simp; first | done | with_reducible rfl)); try simp only [Act.put, List.setIfInBounds_toArray, List.set_cons_zero, List.set_cons_succ]) | (refine takeW 3 rfl (by decide +kernel) (by decide +kernel) (by decide +kernel) (fun _ _ _ h => h) (Or.inr ⟨by rfl, rfl⟩) ?_; try simp only [Act.put, List.setIfInBounds_toArray, List.set_cons_zero, List.set_cons_succ]) | skip); (first | (refine takeT 4 (v := ?_) rfl (by decide +kernel) (by decide +kernel) (by decide +kernel) (fun _ _ _ h => h) (by decide +kernel) (Or.inl ⟨by rfl, ?_⟩) ?_; rotate_left 1; (focus (intro W hW; have hcW := hW.at; (try dsimp only at hcW); go_simp; first | done | with_reducible rfl)); try simp only [Act.put, List.setIfInBounds_toArray, List.set_cons_zero, List.set_cons_succ]) | (refine takeW 4 (v := ?_) rfl (by decide +kernel) (by decide +kernel) (by decide +kernel) (fun _ _ _ h => h) (Or.inl ⟨by rfl, ?_⟩) ?_; rotate_left 1; (focus (intro W hW; go_simp; first | done | with_reducible rfl)); try simp only [Act.put, List.setIfInBounds_toArray, List.set_cons_zero, List.set_cons_succ]) | (refine takeW 4 rfl (by decide +kernel) (by decide +kernel) (by decide +kernel) (fun _ _ _ h => h) (Or.inr ⟨by rfl, rfl⟩) ?_; try simp only [Act.put, List.setIfInBounds_toArray, List.set_cons_zero, List.set_cons_succ]) | skip); (first | (refine takeT 5 (v := ?_) rfl (by decide +kernel) (by decide +kernel) (by decide +kernel) (fun _ _ _ h => h) (by decide +kernel) (Or.inl ⟨by rfl, ?_⟩) ?_; rotate_left 1; (focus (intro W hW; have hcW := hW.at; (try dsimp only at hcW); go_simp; first | done | with_reducible rfl)); try simp only [Act.put, List.setIfInBounds_toArray, List.set_cons_zero, List.set_cons_succ]) | (refine takeW 5 (v := ?_) rfl (by decide +kernel) (by decide +kernel) (by decide +kernel) (fun _ _ _ h => h) (Or.inl ⟨by rfl, ?_⟩) ?_; rotate_left 1; (focus (intro W hW; go_simp; first | done | with_reducible rfl)); try simp only [Act.put, List.setIfInBounds_toArray, List.set_cons_zero, List.set_cons_succ]) | (refine takeW 5 rfl (by decide +kernel) (by decide +kernel) (by decide +kernel) (fun _ _ _ h => h) (Or.inr ⟨by rfl, rfl⟩) ?_; try simp only [Act.put, List.setIfInBounds_toArray, List.set_cons_zero, List.set_cons_succ]) | skip); (first | (refine takeT 6 (v := ?_) rfl (by decide +kernel) (by decide +kernel) (by decide +kernel) (fun _ _ _ h => h) (by decide +kernel) (Or.inl ⟨by rfl, ?_⟩) ?_; rotate_left 1; (focus (intro W hW; have hcW := hW.at; (try dsimp only at hcW); go_simp; first | done | with_reducible rfl)); try simp only [Act.put, List.setIfInBounds_toArray, List.set_cons_zero, List.set_cons_succ]) | (refine takeW 6 (v := ?_) rfl (by decide +kernel) (by decide +kernel) (by decide +kernel) (fun _ _ _ h => h) (Or.inl ⟨by rfl, ?_⟩) ?_; rotate_left 1; (focus (intro W hW; go_simp; first | done | with_reducible rfl)); try simp only [Act.put, List.setIfInBounds_toArray, List.set_cons_zero, List.set_cons_succ]) | (refine takeW 6 rfl (by decide +kernel) (by decide +kernel) (by decide +kernel) (fun _ _ _ h => h) (Or.inr ⟨by rfl, rfl⟩) ?_; try simp only [Act.put, List.setIfInBounds_toArray, List.set_cons_zero, List.set_cons_succ]) | skip); (first | (refine takeT 7 (v := ?_) rfl (by decide +kernel) (by decide +kernel) (by decide +kernel) (fun _ _ _ h => h) (by decide +kernel) (Or.inl ⟨by rfl, ?_⟩) ?_; rotate_left 1; (focus (intro W hW; have hcW := hW.at; (try dsimp only at hcW); go_simp; first | done | with_reducible rfl)); try simp only [Act.put, List.setIfInBounds_toArray, List.set_cons_zero, List.set_cons_succ]) | (refine takeW 7 (v := ?_) rfl (by decide +kernel) (by decide +kernel) (by decide +kernel) (fun _ _ _ h => h) (Or.inl ⟨by rfl, ?_⟩) ?_; rotate_left 1; (focus (intro W hW; go_simp; first | done | with_reducible rfl)); try simp only [Act.put, List.setIfInBounds_toArray, List.set_cons_zero, List.set_cons_succ]) | (refine takeW 7 rfl (by decide +kernel) (by decide +kernel) (by decide +kernel) (fun _ _ _ h => h) (Or.inr ⟨by rfl, rfl⟩) ?_; try simp only [Act.put, List.setIfInBounds_toArray, List.set_cons_zero, List.set_cons_succ]) | skip); (first | (refine takeT 8 (v := ?_) rfl (by decide +kernel) (by decide +kernel) (by decide +kernel) (fun _ _ _ h => h) (by decide +kernel) (Or.inl ⟨by rfl, ?_⟩) ?_; rotate_left 1; (focus (intro W hW; have hcW := hW.at; (try dsimp only at hcW); go_simp; first | done | with_reducible rfl)); try simp only [Act.put, List.setIfInBounds_toArray, List.set_cons_zero, List.set_cons_succ]) | (refine takeW 8 (v := ?_) rfl (by decide +kernel) (by decide +kernel) (by decide +kernel) (fun _ _ _ h => h) (Or.inl ⟨by rfl, ?_⟩) ?_; rotate_left 1; (focus (intro W hW; go_simp; first | done | with_reducible rfl)); try simp only [Act.put, List.setIfInBounds_toArray, List.set_cons_zero, List.set_cons_succ]) | (refine takeW 8 rfl (by decide +kernel) (by decide +kernel) (by decide +kernel) (fun _ _ _ h => h) (Or.inr ⟨by rfl, rfl⟩) ?_; try simp only [Act.put, List.setIfInBounds_toArray, List.set_cons_zero, List.set_cons_succ]) | skip); (first | (refine takeT 9 (v := ?_) rfl (by decide +kernel) (by decide +kernel) (by decide +kernel) (fun _ _ _ h => h) (by decide +kernel) (Or.inl ⟨by rfl, ?_⟩) ?_; rotate_left 1; (focus (intro W hW; have hcW := hW.at; (try dsimp only at hcW); go_simp; first | done | with_reducible rfl)); try simp only [Act.put, List.setIfInBounds_toArray, List.set_cons_zero, List.set_cons_succ]) | (refine takeW 9 (v := ?_) rfl (by decide +kernel) (by decide +kernel) (by decide +kernel) (fun _ _ _ h => h) (Or.inl ⟨by rfl, ?_⟩) ?_; rotate_left 1; (focus (intro W hW; go_simp; first | done | with_reducible rfl)); try simp only [Act.put, List.setIfInBounds_toArray, List.set_cons_zero, List.set_cons_succ]) | (refine takeW 9 rfl (by decide +kernel) (by decide +kernel) (by decide +kernel) (fun _ _ _ h => h) (Or.inr ⟨by rfl, rfl⟩) ?_; try simp only [Act.put, List.setIfInBounds_toArray, List.set_cons_zero, List.set_cons_succ]) | skip); (first | (refine takeT 10 (v := ?_) rfl (by decide +kernel) (by decide +kernel) (by decide +kernel) (fun _ _ _ h => h) (by decide +kernel) (Or.inl ⟨by rfl, ?_⟩) ?_; rotate_left 1; (focus (intro W hW; have hcW := hW.at; (try dsimp only at hcW); go_simp; first | done | with_reducible rfl)); try simp only [Act.put, List.setIfInBounds_toArray, List.set_cons_zero, List.set_cons_succ]) | (refine takeW 10 (v := ?_) rfl (by decide +kernel) (by decide +kernel) (by decide +kernel) (fun _ _ _ h => h) (Or.inl ⟨by rfl, ?_⟩) ?_; rotate_left 1; (focus (intro W hW; go_simp; first | done | with_reducible rfl)); try simp only [Act.put, List.setIfInBounds_toArray, List.set_cons_zero, List.set_cons_succ]) | (refine takeW 10 rfl (by decide +kernel) (by decide +kernel) (by decide +kernel) (fun _ _ _ h => h) (Or.inr ⟨by rfl, rfl⟩) ?_; try simp only [Act.put, List.setIfInBounds_toArray, List.set_cons_zero, List.set_cons_succ]) | skip))
    refine doneT (by kernel_rfl) ?_
    clear hwr
    have q1 : decide ((dn : Int) < 0) = false := by rw [decide_eq_false_iff_not]; omega
    have q2 : decide ((y.got.length : Int) < (dn : Int)) = false := by rw [decide_eq_false_iff_not]; omega
    have q2' : decide (y.got.length < dn) = false := by rw [decide_eq_false_iff_not]; omega
    have q4 : decide ((ps.length : Int) < (y.got.length : Int)) = false := by rw [decide_eq_false_iff_not]; omega
    have q4' : decide (ps.length < y.got.length) = false := by rw [decide_eq_false_iff_not]; omega
    clear e0 e1 e2 e3
    have h52 : w2.drew.heap[b5]? = some (.cells #[.bool y.st, .slice (some ⟨ga, 0, none⟩) y.left.length y.left.length] 28 (0, 0)) := h5.out
    have h82 : w2.drew.heap[g8]? = some (.cells #[.bool y.rt, .slice (some ⟨gb, 0, none⟩) y.got.length y.got.length] 39 (0, 0)) := h8.out
    have na2 : Hid (News w2.drew w.heap.size ga y.left) := na.out.below (Below.refl _ _).drew
    have nb2 : Hid (News w2.drew w.heap.size gb y.got) := nb.out.below (Below.refl _ _).drew
    have hW2 : Hid (Below w.heap.size w w2.drew) := hW3.out.drew
    clear h5 h8 na nb hb5 hb8 H3 hW3
    have e0 := block_at h52 (i := 0) (v := .bool y.st) rfl
    have e1 := block_at h52 (i := 1) (v := .slice (some ⟨ga, 0, none⟩) y.left.length y.left.length) rfl
    have e2 := block_at h82 (i := 0) (v := .bool y.rt) rfl
    have e3 := block_at h82 (i := 1) (v := .slice (some ⟨gb, 0, none⟩) y.got.length y.got.length) rfl
    replace h52 := Lib.hid h52
    replace h82 := Lib.hid h82
    have sm1 : Sml y.left := ⟨by omega, hsy.1⟩
    have sm2 : Sml y.got := ⟨by omega, hsy.2.1⟩
    have hge8' := hge8
    have KC : Hid (∀ (W : World) (A A' : Option Addr) (c c' : Nat), Rds W W.heap.size A c y.left → Rds W W.heap.size A' c' y.got → Calls Try.prog 16 #[sv y.st (.slice A y.left.length c), sv y.rt (.slice A' y.got.length c')] W (ResR W ⟨false, y.left, false, y.got⟩)) :=
      fun W A A' c c' h h' => clear_any W y.st y.rt A A' c c' _ _ h h' sm1 sm2
    go_wp2_with fail
    refine (KC.out _ _ _ _ _ (na2.out.rds sm1) (nb2.out.rds sm2)).mono ?_
    rintro e w3 ⟨gA, gB, rfl, na, nb, bb⟩
    replace na := Lib.hid (na.mono (base' := w.heap.size) hW2.out.size)
    replace nb := Lib.hid (nb.mono (base' := w.heap.size) hW2.out.size)
    have hW3 := Lib.hid (hW2.out.trans (bb.mono hW2.out.size))
    replace h52 := (bb.block _ (block_lt h52.out)).trans h52.out
    replace h82 := (bb.block _ (block_lt h82.out)).trans h82.out
    clear bb e0 e1 e2 e3 hW2 na2 nb2 KC q1 q2 q2' q4 q4'
    have n58 : b5 ≠ g8 := block_ne h52 h82 (by decide)
    have n89 : ¬ b5 = g8 := n58
    have n98 : ¬ g8 = b5 := fun e => n58 e.symm
    have d0 := block_at h52 (i := 0) (v := .bool y.st) rfl
    have d1 := block_at h52 (i := 1) (v := .slice (some ⟨ga, 0, none⟩) y.left.length y.left.length) rfl
    have f0 := block_free h52 0
    have f1 := block_free h52 1
    have d2 := block_at h82 (i := 0) (v := .bool y.rt) rfl
    have d3 := block_at h82 (i := 1) (v := .slice (some ⟨gb, 0, none⟩) y.got.length y.got.length) rfl
    have f2 := block_free h82 0
    have f3 := block_free h82 1
    have hg5 := grown_trans (grown_setCell w3 ⟨b5, 0, none⟩ (.bool false)) (grown_setCell (w3.setCell ⟨b5, 0, none⟩ (.bool false)) ⟨b5, 1, none⟩ (.slice (some ⟨gA, 0, none⟩) y.left.length y.left.length))
    have h8x := block_grown h82 hg5 (fun e => n98 (Option.some.inj e))
    have nax := na.out.stores2 h52 (by decide) (by decide) (.bool false) (.slice (some ⟨gA, 0, none⟩) y.left.length y.left.length)
    have nbx := nb.out.stores2 h52 (by decide) (by decide) (.bool false) (.slice (some ⟨gA, 0, none⟩) y.left.length y.left.length)
    have h5x := set2 h52 (.bool false) (.slice (some ⟨gA, 0, none⟩) y.left.length y.left.length)
    have hWx := below2 hW3.out hge (.bool false) (.slice (some ⟨gA, 0, none⟩) y.left.length y.left.length)
    clear hg5 na nb
    have hg8 := grown_trans (grown_setCell ((w3.setCell ⟨b5, 0, none⟩ (.bool false)).setCell ⟨b5, 1, none⟩ (.slice (some ⟨gA, 0, none⟩) y.left.length y.left.length)) ⟨g8, 0, none⟩ (.bool false)) (grown_setCell (((w3.setCell ⟨b5, 0, none⟩ (.bool false)).setCell ⟨b5, 1, none⟩ (.slice (some ⟨gA, 0, none⟩) y.left.length y.left.length)).setCell ⟨g8, 0, none⟩ (.bool false)) ⟨g8, 1, none⟩ (.slice (some ⟨gB, 0, none⟩) y.got.length y.got.length))
    have h54 := block_grown h5x hg8 (fun e => n89 (Option.some.inj e))
    have na := Lib.hid (nax.stores2 h8x (by decide) (by decide) (.bool false) (.slice (some ⟨gB, 0, none⟩) y.got.length y.got.length))
    have nb := Lib.hid (nbx.stores2 h8x (by decide) (by decide) (.bool false) (.slice (some ⟨gB, 0, none⟩) y.got.length y.got.length))
    have h84 := set2 h8x (.bool false) (.slice (some ⟨gB, 0, none⟩) y.got.length y.got.length)
    have hW5 := Lib.hid (below2 hWx hge8 (.bool false) (.slice (some ⟨gB, 0, none⟩) y.got.length y.got.length))
    clear hg8 h5x h8x nax nbx hWx
    replace h54 := Lib.hid h54
    replace h84 := Lib.hid h84
    replace h52 := Lib.hid h52
    replace h82 := Lib.hid h82
    go_wp2
    clear d0 d1 d2 d3 f0 f1 f2 f3 n89 n98 h52 h82 hW3
    generalize (((w3.setCell ⟨b5, 0, none⟩ (.bool false)).setCell ⟨b5, 1, none⟩ (.slice (some ⟨gA, 0, none⟩) y.left.length y.left.length)).setCell ⟨g8, 0, none⟩ (.bool false)).setCell ⟨g8, 1, none⟩ (.slice (some ⟨gB, 0, none⟩) y.got.length y.got.length) = w5 at h54 h84 na nb hW5 ⊢
    replace h54 := h54.out
    replace h84 := h84.out
    have e0 := block_at h54 (i := 0) (v := .bool false) rfl
    have e1 := block_at h54 (i := 1) (v := .slice (some ⟨gA, 0, none⟩) y.left.length y.left.length) rfl
    have e2 := block_at h84 (i := 0) (v := .bool false) rfl
    have e3 := block_at h84 (i := 1) (v := .slice (some ⟨gB, 0, none⟩) y.got.length y.got.length) rfl
    have hmk := fun W : World => makeX y.left.length W (by omega)
    obtain ⟨t', hgood⟩ := run_good y.left false y.got
    obtain ⟨zs, hz⟩ : ∃ zs, y.got ++ y.left = zs := ⟨_, rfl⟩
    rw [hz] at hgood
    have hx1 : SmlP ⟨false, y.left, false, y.got⟩ := hsy
    have KR2 : Hid (∀ (W : World) (A A' A2 : Option Addr) (c c' c2 : Nat), Rds W W.heap.size A c y.left → Rds W W.heap.size A' c' y.got → RdX W W.heap.size A2 c2 (List.replicate y.left.length (false, false)) → Calls Try.prog 19 #[sv false (.slice A y.left.length c), sv false (.slice A' y.got.length c'), .slice A2 y.left.length c2] W (ResR W ⟨t', [], t', zs⟩)) := by
      intro W A A' A2 c c' c2 h h' h2
      have := run_any W ⟨false, y.left, false, y.got⟩ A c A' c' A2 c2 (List.replicate y.left.length (false, false)) h h' h2 hx1 (by rw [List.length_replicate]; show y.got.length + _ ≤ _; omega)
      rw [hgood, List.length_replicate] at this
      exact this
    have hzl : zs.length = y.got.length + y.left.length := by rw [← hz, List.length_append]
    have hzs : zs.length ≤ 1000 := by omega
    have smz : Sml zs := by
      have := hx1.run (List.replicate y.left.length (false, false))
      rw [hgood] at this
      exact ⟨by omega, this.2.1⟩
    replace hz := Lib.hid hz
    replace hzl := Lib.hid hzl
    clear hgood
    refine startT (S := fun a => a.block = b5 ∨ a.block = g8) (T := [10, 11]) 12 (by kernel_rfl) rfl (l := #[false, false, false, false, false, false, false, false, false, false, false, false]) rfl ?_
    ((first | (refine takeT 0 (v := ?_) rfl (by decide +kernel) (by decide +kernel) (by decide +kernel) (fun _ _ _ h => h) (by decide +kernel) (Or.inl ⟨by rfl, ?_⟩) ?_; rotate_left 1; (focus (intro W hW; have hcW := hW.at; (try dsimp only at hcW); go_simp; first | done | with_reducible rfl)); try simp only [Act.put, List.setIfInBounds_toArray, List.set_cons_zero, List.set_cons_succ]) | (refine takeW 0 (v := ?_) rfl (by decide +kernel) (by decide +kernel) (by decide +kernel) (fun _ _ _ h => h) (Or.inl ⟨by rfl, ?_⟩) ?_; rotate_left 1; (focus (intro W hW; go_simp; first | done | with_reducible rfl)); try simp only [Act.put, List.setIfInBounds_toArray, List.set_cons_zero, List.set_cons_succ]) | (refine takeW 0 rfl (by decide +kernel) (by decide +kernel) (by decide +kernel) (fun _ _ _ h => h) (Or.inr ⟨by rfl, rfl⟩) ?_; try simp only [Act.put, List.setIfInBounds_toArray, List.set_cons_zero, List.set_cons_succ]) | skip); (first | (refine takeT 1 (v := ?_) rfl (by decide +kernel) (by decide +kernel) (by decide +kernel) (fun _ _ _ h => h) (by decide +kernel) (Or.inl ⟨by rfl, ?_⟩) ?_; rotate_left 1; (focus (intro W hW; have hcW := hW.at; (try dsimp only at hcW); go_simp; first | done | with_reducible rfl)); try simp only [Act.put, List.setIfInBounds_toArray, List.set_cons_zero, List.set_cons_succ]) | (refine takeW 1 (v := ?_) rfl (by decide +kernel) (by decide +kernel) (by decide +kernel) (fun _ _ _ h => h) (Or.inl ⟨by rfl, ?_⟩) ?_; rotate_left 1; (focus (intro W hW; go_simp; first | done | with_reducible rfl)); try simp only [Act.put, List.setIfInBounds_toArray, List.set_cons_zero, List.set_cons_succ]) | (refine takeW 1 rfl (by decide +kernel) (by decide +kernel) (by decide +kernel) (fun _ _ _ h => h) (Or.inr ⟨by rfl, rfl⟩) ?_; try simp only [Act.put, List.setIfInBounds_toArray, List.set_cons_zero, List.set_cons_succ]) | skip); (first | (refine takeT 2 (v := ?_) rfl (by decide +kernel) (by decide +kernel) (by decide +kernel) (fun _ _ _ h => h) (by decide +kernel) (Or.inl ⟨by rfl, ?_⟩) ?_; rotate_left 1; (focus (intro W hW; have hcW := hW.at; (try dsimp only at hcW); go_simp; first | done | with_reducible rfl)); try simp only [Act.put, List.setIfInBounds_toArray, List.set_cons_zero, List.set_cons_succ]) | (refine takeW 2 (v := ?_) rfl (by decide +kernel) (by decide +kernel) (by decide +kernel) (fun _ _ _ h => h) (Or.inl ⟨by rfl, ?_⟩) ?_; rotate_left 1; (focus (intro W hW; go_simp; first | done | with_reducible rfl)); try simp only [Act.put, List.setIfInBounds_toArray, List.set_cons_zero, List.set_cons_succ]) | (refine takeW 2 rfl (by decide +kernel) (by decide +kernel) (by decide +kernel) (fun _ _ _ h => h) (Or.inr ⟨by rfl, rfl⟩) ?_; try simp only [Act.put, List.setIfInBounds_toArray, List.set_cons_zero, List.set_cons_succ]) | skip); (first | (refine takeT 3 (v := ?_) rfl (by decide +kernel) (by decide +kernel) (by decide +kernel) (fun _ _ _ h => h) (by decide +kernel) (Or.inl ⟨by rfl, ?_⟩) ?_; rotate_left 1; (focus (intro W hW; have hcW := hW.at; (try dsimp only at hcW); go_simp; first | done | with_reducible rfl)); try simp only [Act.put, List.setIfInBounds_toArray, List.set_cons_zero, List.set_cons_succ]) | (refine takeW 3 (v := ?_) rfl (by decide +kernel) (by decide +kernel) (by decide +kernel) (fun _ _ _ h => h) (Or.inl ⟨by rfl, ?_⟩) ?_; rotate_left 1; (focus (intro W hW; go_simp; first | done | with_reducible rfl)); try simp only [Act.put, List.setIfInBounds_toArray, List.set_cons_zero, List.set_cons_succ]) | (refine takeW 3 rfl (by decide +kernel) (by decide +kernel) (by decide +kernel) (fun _ _ _ h => h) (Or.inr ⟨by rfl, rfl⟩) ?_; try simp only [Act.put, List.setIfInBounds_toArray, List.set_cons_zero, List.set_cons_succ]) | skip); (first | (refine takeT 4 (v := ?_) rfl (by decide +kernel) (by decide +kernel) (by decide +kernel) (fun _ _ _ h => h) (by decide +kernel) (Or.inl ⟨by rfl, ?_⟩) ?_; rotate_left 1; (focus (intro W hW; have hcW := hW.at; (try dsimp only at hcW); go_simp; first | done | with_reducible rfl)); try simp only [Act.put, List.setIfInBounds_toArray, List.set_cons_zero, List.set_cons_succ]) | (refine takeW 4 (v := ?_) rfl (by decide +kernel) (by decide +kernel) (by decide +kernel) (fun _ _ _ h => h) (Or.inl ⟨by rfl, ?_⟩) ?_; rotate_left 1; (focus (intro W hW; go_simp; first | done | with_reducible rfl)); try simp only [Act.put, List.setIfInBounds_toArray, List.set_cons_zero, List.set_cons_succ]) | (refine takeW 4 rfl (by decide +kernel) (by decide +kernel) (by decide +kernel) (fun _ _ _ h => h) (Or.inr ⟨by rfl, rfl⟩) ?_; try simp only [Act.put, List.setIfInBounds_toArray, List.set_cons_zero, List.set_cons_succ]) | skip))
    have hL : Below w.heap.size w w5.drew := hW5.out.drew
    have na3 : Hid (News w5.drew w.heap.size gA y.left) := na.out.below (Below.refl _ _).drew
    have nb3 : Hid (News w5.drew w.heap.size gB y.got) := nb.out.below (Below.refl _ _).drew
    have h53 : Hid (w5.drew.heap[b5]? = some (.cells #[.bool false, .slice (some ⟨gA, 0, none⟩) y.left.length y.left.length] 28 (0, 0))) := h54
    have h83 : Hid (w5.drew.heap[g8]? = some (.cells #[.bool false, .slice (some ⟨gB, 0, none⟩) y.got.length y.got.length] 39 (0, 0))) := h84
    clear h54 h84 na nb hW5 e0 e1 e2 e3
    generalize w5.drew = wz at hL na3 nb3 h53 h83 ⊢
    refine stepT 5 rfl (by decide +kernel) (by rfl) ?_
    intro K hK
    go_simp
    have bb := (Below.refl wz.heap.size wz).alloc (Nat.le_refl _) (.cells (madeCells #[.bool false, .bool false] (y.left.length * 2)) 56)
    have hx5 := Lib.hid (rdx_made y.left.length wz (by omega))
    refine hK _ _ (.inr fun a ha => by rcases ha with h | h <;> exact bb.cell (by rw [h]; first | exact block_lt h53.out | exact block_lt h83.out)) ?_
    replace h53 := Lib.hid ((bb.block _ (block_lt h53.out)).trans h53.out)
    replace h83 := Lib.hid ((bb.block _ (block_lt h83.out)).trans h83.out)
    replace na3 := Lib.hid (na3.out.below bb)
    replace nb3 := Lib.hid (nb3.out.below bb)
    replace hL := hL.trans (bb.mono hL.size)
    clear hK K bb hmk
    try simp only [Act.put, List.setIfInBounds_toArray, List.set_cons_zero, List.set_cons_succ]
    generalize wz.alloc (.cells (madeCells #[.bool false, .bool false] (y.left.length * 2)) 56) = wa at hL na3 nb3 h53 h83 hx5 ⊢
    generalize wz.heap.size = q5 at hx5 ⊢
    refine stepT 6 rfl (by decide +kernel) (by rfl) ?_
    intro K hK
    go_simp
    refine (KR2.out wa _ _ _ _ _ _ (na3.out.rds sm1) (nb3.out.rds sm2) hx5.out).mono ?_
    rintro e wb ⟨gc, gd, rfl, nc, nd, bb⟩
    refine hK _ _ (.inr fun a ha => by rcases ha with h | h <;> exact bb.cell (by rw [h]; first | exact block_lt h53.out | exact block_lt h83.out)) ?_
    replace h53 := (bb.block _ (block_lt h53.out)).trans h53.out
    replace h83 := Lib.hid ((bb.block _ (block_lt h83.out)).trans h83.out)
    replace nc := Lib.hid (nc.mono (base' := w.heap.size) hL.size)
    replace nd := Lib.hid (nd.mono (base' := w.heap.size) hL.size)
    replace hL := hL.trans (bb.mono hL.size)
    clear hK K bb na3 nb3 hx5
    try simp only [Act.put, List.setIfInBounds_toArray, List.set_cons_zero, List.set_cons_succ]
    ((first | (refine takeT 7 (v := ?_) rfl (by decide +kernel) (by decide +kernel) (by decide +kernel) (fun _ _ _ h => h) (by decide +kernel) (Or.inl ⟨by rfl, ?_⟩) ?_; rotate_left 1; (focus (intro W hW; have hcW := hW.at; (try dsimp only at hcW); go_simp; first | done | with_reducible rfl)); try simp only [Act.put, List.setIfInBounds_toArray, List.set_cons_zero, List.set_cons_succ]) | (refine takeW 7 (v := ?_) rfl (by decide +kernel) (by decide +kernel) (by decide +kernel) (fun _ _ _ h => h) (Or.inl ⟨by rfl, ?_⟩) ?_; rotate_left 1; (focus (intro W hW; go_simp; first | done | with_reducible rfl)); try simp only [Act.put, List.setIfInBounds_toArray, List.set_cons_zero, List.set_cons_succ]) | (refine takeW 7 rfl (by decide +kernel) (by decide +kernel) (by decide +kernel) (fun _ _ _ h => h) (Or.inr ⟨by rfl, rfl⟩) ?_; try simp only [Act.put, List.setIfInBounds_toArray, List.set_cons_zero, List.set_cons_succ]) | skip); (first | (refine takeT 8 (v := ?_) rfl (by decide +kernel) (by decide +kernel) (by decide +kernel) (fun _ _ _ h => h) (by decide +kernel) (Or.inl ⟨by rfl, ?_⟩) ?_; rotate_left 1; (focus (intro W hW; have hcW := hW.at; (try dsimp only at hcW); go_simp; first | done | with_reducible rfl)); try simp only [Act.put, List.setIfInBounds_toArray, List.set_cons_zero, List.set_cons_succ]) | (refine takeW 8 (v := ?_) rfl (by decide +kernel) (by decide +kernel) (by decide +kernel) (fun _ _ _ h => h) (Or.inl ⟨by rfl, ?_⟩) ?_; rotate_left 1; (focus (intro W hW; go_simp; first | done | with_reducible rfl)); try simp only [Act.put, List.setIfInBounds_toArray, List.set_cons_zero, List.set_cons_succ]) | (refine takeW 8 rfl (by decide +kernel) (by decide +kernel) (by decide +kernel) (fun _ _ _ h => h) (Or.inr ⟨by rfl, rfl⟩) ?_; try simp only [Act.put, List.setIfInBounds_toArray, List.set_cons_zero, List.set_cons_succ]) | skip); (first | (refine takeT 9 (v := ?_) rfl (by decide +kernel) (by decide +kernel) (by decide +kernel) (fun _ _ _ h => h) (by decide +kernel) (Or.inl ⟨by rfl, ?_⟩) ?_; rotate_left 1; (focus (intro W hW; have hcW := hW.at; (try dsimp only at hcW); go_simp; first | done | with_reducible rfl)); try simp only [Act.put, List.setIfInBounds_toArray, List.set_cons_zero, List.set_cons_succ]) | (refine takeW 9 (v := ?_) rfl (by decide +kernel) (by decide +kernel) (by decide +kernel) (fun _ _ _ h => h) (Or.inl ⟨by rfl, ?_⟩) ?_; rotate_left 1; (focus (intro W hW; go_simp; first | done | with_reducible rfl)); try simp only [Act.put, List.setIfInBounds_toArray, List.set_cons_zero, List.set_cons_succ]) | (refine takeW 9 rfl (by decide +kernel) (by decide +kernel) (by decide +kernel) (fun _ _ _ h => h) (Or.inr ⟨by rfl, rfl⟩) ?_; try simp only [Act.put, List.setIfInBounds_toArray, List.set_cons_zero, List.set_cons_succ]) | skip))
    have n58 : b5 ≠ g8 := block_ne h53 h83.out (by decide)
    have d0 := block_at h53 (i := 0) (v := .bool false) rfl
    have d1 := block_at h53 (i := 1) (v := .slice (some ⟨gA, 0, none⟩) y.left.length y.left.length) rfl
    have f0 := block_free h53 0
    have f1 := block_free h53 1
    replace h53 := Lib.hid h53
    refine stepT 10 rfl (by decide +kernel) (by rfl) ?_
    intro K hK
    go_simp
    have hg5 := grown_trans (grown_setCell wb ⟨b5, 0, none⟩ (.bool t')) (grown_setCell (wb.setCell ⟨b5, 0, none⟩ (.bool t')) ⟨b5, 1, none⟩ (.slice (some ⟨gc, 0, none⟩) 0 0))
    refine hK _ _ (.inl (by decide)) ?_
    replace h83 := Lib.hid (block_grown h83.out hg5 (fun e => n58 (Option.some.inj e).symm))
    replace nd := Lib.hid (nd.out.stores2 h53.out (by decide) (by decide) (.bool t') (.slice (some ⟨gc, 0, none⟩) 0 0))
    replace h53 : Hid (((wb.setCell ⟨b5, 0, none⟩ (.bool t')).setCell ⟨b5, 1, none⟩ (.slice (some ⟨gc, 0, none⟩) 0 0)).heap[b5]? = _) := set2 h53.out (.bool t') (.slice (some ⟨gc, 0, none⟩) 0 0)
    replace hL := below2 hL hge (.bool t') (.slice (some ⟨gc, 0, none⟩) 0 0)
    clear hK K hg5 d0 d1 f0 f1 nc
    try simp only [Act.put, List.setIfInBounds_toArray, List.set_cons_zero, List.set_cons_succ]
    generalize (wb.setCell ⟨b5, 0, none⟩ (.bool t')).setCell ⟨b5, 1, none⟩ (.slice (some ⟨gc, 0, none⟩) 0 0) = wc at h53 h83 nd hL ⊢
    have d0 := block_at h83.out (i := 0) (v := .bool false) rfl
    have d1 := block_at h83.out (i := 1) (v := .slice (some ⟨gB, 0, none⟩) y.got.length y.got.length) rfl
    have f0 := block_free h83.out 0
    have f1 := block_free h83.out 1
    refine stepT 11 rfl (by decide +kernel) (by rfl) ?_
    intro K hK
    go_simp
    have hg8 := grown_trans (grown_setCell wc ⟨g8, 0, none⟩ (.bool t')) (grown_setCell (wc.setCell ⟨g8, 0, none⟩ (.bool t')) ⟨g8, 1, none⟩ (.slice (some ⟨gd, 0, none⟩) zs.length zs.length))
    refine hK _ _ (.inl (by decide)) ?_
    replace h53 := block_grown h53.out hg8 (fun e => n58 (Option.some.inj e))
    replace nd := Lib.hid (nd.out.stores2 h83.out (by decide) (by decide) (.bool t') (.slice (some ⟨gd, 0, none⟩) zs.length zs.length))
    replace h83 : ((wc.setCell ⟨g8, 0, none⟩ (.bool t')).setCell ⟨g8, 1, none⟩ (.slice (some ⟨gd, 0, none⟩) zs.length zs.length)).heap[g8]? = _ := set2 h83.out (.bool t') (.slice (some ⟨gd, 0, none⟩) zs.length zs.length)
    replace hL := below2 hL hge8 (.bool t') (.slice (some ⟨gd, 0, none⟩) zs.length zs.length)
    clear hK K hg8 d0 d1 f0 f1
    try simp only [Act.put, List.setIfInBounds_toArray, List.set_cons_zero, List.set_cons_succ]
    generalize (wc.setCell ⟨g8, 0, none⟩ (.bool t')).setCell ⟨g8, 1, none⟩ (.slice (some ⟨gd, 0, none⟩) zs.length zs.length) = wd at h53 h83 nd hL ⊢
    refine doneT (by kernel_rfl) ?_
    have e1 := block_at h53 (i := 1) (v := .slice (some ⟨gc, 0, none⟩) 0 0) rfl
    have e3 := block_at h83 (i := 1) (v := .slice (some ⟨gd, 0, none⟩) zs.length zs.length) rfl
    replace hL := Lib.hid hL
    replace h53 := Lib.hid h53
    replace h83 := Lib.hid h83
    have hsl := fun W : World => sliceP_h A ps.length c (y.got.length : Int) W (by omega) (by have := h1c.out; omega)
    simp only [Int.toNat_natCast] at hsl
    obtain ⟨A5, c5, hcut, hr5⟩ := H1.out.from_ (k := dn) (by have := hdn.out; omega)
    have hld : ps.length - dn = y.left.length := by have := hdn.out; omega
    rw [hld] at hcut
    rw [← m6.out] at hr5
    have hsf := fun W : World => sliceP_from A ps.length c (dn : Int) W (by omega) (by have := hdn.out; omega)
    simp only [Int.toNat_natCast] at hsf
    rw [hcut] at hsf
    replace hr5 := Lib.hid hr5
    have HT := Lib.hid (show Rds w w.heap.size A c y.got by
      have := H1.out.take (k := y.got.length) (by omega)
      rwa [← m5.out] at this)
    clear hcut hld
    go_wp2
    clear e1 e3
    refine startT (S := fun _ => False) (T := []) 9 (by kernel_rfl) rfl (l := #[false, false, false, false, false, false, false, false, false]) rfl ?_
    ((first | (refine takeT 0 (v := ?_) rfl (by decide +kernel) (by decide +kernel) (by decide +kernel) (fun _ _ _ h => h) (by decide +kernel) (Or.inl ⟨by rfl, ?_⟩) ?_; rotate_left 1; (focus (intro W hW; have hcW := hW.at; (try dsimp only at hcW); go_simp; first | done | with_reducible rfl)); try simp only [Act.put, List.setIfInBounds_toArray, List.set_cons_zero, List.set_cons_succ]) | (refine takeW 0 (v := ?_) rfl (by decide +kernel) (by decide +kernel) (by decide +kernel) (fun _ _ _ h => h) (Or.inl ⟨by rfl, ?_⟩) ?_; rotate_left 1; (focus (intro W hW; go_simp; first | done | with_reducible rfl)); try simp only [Act.put, List.setIfInBounds_toArray, List.set_cons_zero, List.set_cons_succ]) | (refine takeW 0 rfl (by decide +kernel) (by decide +kernel) (by decide +kernel) (fun _ _ _ h => h) (Or.inr ⟨by rfl, rfl⟩) ?_; try simp only [Act.put, List.setIfInBounds_toArray, List.set_cons_zero, List.set_cons_succ]) | skip); (first | (refine takeT 1 (v := ?_) rfl (by decide +kernel) (by decide +kernel) (by decide +kernel) (fun _ _ _ h => h) (by decide +kernel) (Or.inl ⟨by rfl, ?_⟩) ?_; rotate_left 1; (focus (intro W hW; have hcW := hW.at; (try dsimp only at hcW); go_simp; first | done | with_reducible rfl)); try simp only [Act.put, List.setIfInBounds_toArray, List.set_cons_zero, List.set_cons_succ]) | (refine takeW 1 (v := ?_) rfl (by decide +kernel) (by decide +kernel) (by decide +kernel) (fun _ _ _ h => h) (Or.inl ⟨by rfl, ?_⟩) ?_; rotate_left 1; (focus (intro W hW; go_simp; first | done | with_reducible rfl)); try simp only [Act.put, List.setIfInBounds_toArray, List.set_cons_zero, List.set_cons_succ]) | (refine takeW 1 rfl (by decide +kernel) (by decide +kernel) (by decide +kernel) (fun _ _ _ h => h) (Or.inr ⟨by rfl, rfl⟩) ?_; try simp only [Act.put, List.setIfInBounds_toArray, List.set_cons_zero, List.set_cons_succ]) | skip); (first | (refine takeT 2 (v := ?_) rfl (by decide +kernel) (by decide +kernel) (by decide +kernel) (fun _ _ _ h => h) (by decide +kernel) (Or.inl ⟨by rfl, ?_⟩) ?_; rotate_left 1; (focus (intro W hW; have hcW := hW.at; (try dsimp only at hcW); go_simp; first | done | with_reducible rfl)); try simp only [Act.put, List.setIfInBounds_toArray, List.set_cons_zero, List.set_cons_succ]) | (refine takeW 2 (v := ?_) rfl (by decide +kernel) (by decide +kernel) (by decide +kernel) (fun _ _ _ h => h) (Or.inl ⟨by rfl, ?_⟩) ?_; rotate_left 1; (focus (intro W hW; go_simp; first | done | with_reducible rfl)); try simp only [Act.put, List.setIfInBounds_toArray, List.set_cons_zero, List.set_cons_succ]) | (refine takeW 2 rfl (by decide +kernel) (by decide +kernel) (by decide +kernel) (fun _ _ _ h => h) (Or.inr ⟨by rfl, rfl⟩) ?_; try simp only [Act.put, List.setIfInBounds_toArray, List.set_cons_zero, List.set_cons_succ]) | skip))
    ((first | (refine takeT 4 (v := ?_) rfl (by decide +kernel) (by decide +kernel) (by decide +kernel) (fun _ _ _ h => h) (by decide +kernel) (Or.inl ⟨by rfl, ?_⟩) ?_; rotate_left 1; (focus (intro W hW; have hcW := hW.at; (try dsimp only at hcW); go_simp; first | done | with_reducible rfl)); try simp only [Act.put, List.setIfInBounds_toArray, List.set_cons_zero, List.set_cons_succ]) | (refine takeW 4 (v := ?_) rfl (by decide +kernel) (by decide +kernel) (by decide +kernel) (fun _ _ _ h => h) (Or.inl ⟨by rfl, ?_⟩) ?_; rotate_left 1; (focus (intro W hW; go_simp; first | done | with_reducible rfl)); try simp only [Act.put, List.setIfInBounds_toArray, List.set_cons_zero, List.set_cons_succ]) | (refine takeW 4 rfl (by decide +kernel) (by decide +kernel) (by decide +kernel) (fun _ _ _ h => h) (Or.inr ⟨by rfl, rfl⟩) ?_; try simp only [Act.put, List.setIfInBounds_toArray, List.set_cons_zero, List.set_cons_succ]) | skip); (first | (refine takeT 5 (v := ?_) rfl (by decide +kernel) (by decide +kernel) (by decide +kernel) (fun _ _ _ h => h) (by decide +kernel) (Or.inl ⟨by rfl, ?_⟩) ?_; rotate_left 1; (focus (intro W hW; have hcW := hW.at; (try dsimp only at hcW); go_simp; first | done | with_reducible rfl)); try simp only [Act.put, List.setIfInBounds_toArray, List.set_cons_zero, List.set_cons_succ]) | (refine takeW 5 (v := ?_) rfl (by decide +kernel) (by decide +kernel) (by decide +kernel) (fun _ _ _ h => h) (Or.inl ⟨by rfl, ?_⟩) ?_; rotate_left 1; (focus (intro W hW; go_simp; first | done | with_reducible rfl)); try simp only [Act.put, List.setIfInBounds_toArray, List.set_cons_zero, List.set_cons_succ]) | (refine takeW 5 rfl (by decide +kernel) (by decide +kernel) (by decide +kernel) (fun _ _ _ h => h) (Or.inr ⟨by rfl, rfl⟩) ?_; try simp only [Act.put, List.setIfInBounds_toArray, List.set_cons_zero, List.set_cons_succ]) | skip); (first | (refine takeT 6 (v := ?_) rfl (by decide +kernel) (by decide +kernel) (by decide +kernel) (fun _ _ _ h => h) (by decide +kernel) (Or.inl ⟨by rfl, ?_⟩) ?_; rotate_left 1; (focus (intro W hW; have hcW := hW.at; (try dsimp only at hcW); go_simp; first | done | with_reducible rfl)); try simp only [Act.put, List.setIfInBounds_toArray, List.set_cons_zero, List.set_cons_succ]) | (refine takeW 6 (v := ?_) rfl (by decide +kernel) (by decide +kernel) (by decide +kernel) (fun _ _ _ h => h) (Or.inl ⟨by rfl, ?_⟩) ?_; rotate_left 1; (focus (intro W hW; go_simp; first | done | with_reducible rfl)); try simp only [Act.put, List.setIfInBounds_toArray, List.set_cons_zero, List.set_cons_succ]) | (refine takeW 6 rfl (by decide +kernel) (by decide +kernel) (by decide +kernel) (fun _ _ _ h => h) (Or.inr ⟨by rfl, rfl⟩) ?_; try simp only [Act.put, List.setIfInBounds_toArray, List.set_cons_zero, List.set_cons_succ]) | skip))
    clear hsl hsf
    have hLd : Below w.heap.size w wd.drew := hL.out.drew
    have nd3 : Hid (News wd.drew w.heap.size gd zs) := nd.out.below (Below.refl _ _).drew
    have h5d : Hid (wd.drew.heap[b5]? = some (.cells #[.bool t', .slice (some ⟨gc, 0, none⟩) 0 0] 28 (0, 0))) := h53.out
    have h8d : Hid (wd.drew.heap[g8]? = some (.cells #[.bool t', .slice (some ⟨gd, 0, none⟩) zs.length zs.length] 39 (0, 0))) := h83.out
    clear hL nd h53 h83
    generalize wd.drew = we at hLd nd3 h5d h8d ⊢
    refine stepT 3 rfl (by decide +kernel) (by rfl) ?_
    intro K hK
    go_simp
    refine (clone_any we A c y.got ((HT.out.below hLd).more hLd.size) sm2).mono ?_
    rintro e wf ⟨v, rfl, hpk, bb⟩
    obtain ⟨Av, cv, rfl⟩ := hpk.shape
    refine hK _ _ (.inr fun a ha => ha.elim) ?_
    have hLf := hLd.trans (bb.mono hLd.size)
    have hr6 := (hr5.out.below hLf).more hLd.size
    clear hK K
    try simp only [Act.put, List.setIfInBounds_toArray, List.set_cons_zero, List.set_cons_succ]
    refine stepT 7 rfl (by decide +kernel) (by rfl) ?_
    intro K hK
    refine wp_appendPks Try.underlying22 Try.info26 (.tmp 75) (.tmp 78) rfl we.heap.size _ y.got rfl hpk A5 c5 y.left hr6 rfl (by omega) bb.size ?_
    intro A9 c9 wg hpk9 bb9
    rw [hz.out] at hpk9 ⊢
    refine hK _ _ (.inr fun a ha => ha.elim) ?_
    clear hK K hpk hr6
    try simp only [Act.put, List.setIfInBounds_toArray, List.set_cons_zero, List.set_cons_succ]
    ((first | (refine takeT 8 (v := ?_) rfl (by decide +kernel) (by decide +kernel) (by decide +kernel) (fun _ _ _ h => h) (by decide +kernel) (Or.inl ⟨by rfl, ?_⟩) ?_; rotate_left 1; (focus (intro W hW; have hcW := hW.at; (try dsimp only at hcW); go_simp; first | done | with_reducible rfl)); try simp only [Act.put, List.setIfInBounds_toArray, List.set_cons_zero, List.set_cons_succ]) | (refine takeW 8 (v := ?_) rfl (by decide +kernel) (by decide +kernel) (by decide +kernel) (fun _ _ _ h => h) (Or.inl ⟨by rfl, ?_⟩) ?_; rotate_left 1; (focus (intro W hW; go_simp; first | done | with_reducible rfl)); try simp only [Act.put, List.setIfInBounds_toArray, List.set_cons_zero, List.set_cons_succ]) | (refine takeW 8 rfl (by decide +kernel) (by decide +kernel) (by decide +kernel) (fun _ _ _ h => h) (Or.inr ⟨by rfl, rfl⟩) ?_; try simp only [Act.put, List.setIfInBounds_toArray, List.set_cons_zero, List.set_cons_succ]) | skip))
    refine doneT (by kernel_rfl) ?_
    have b9 := bb.trans bb9
    replace h5d := (b9.block _ (block_lt h5d.out)).trans h5d.out
    replace h8d := (b9.block _ (block_lt h8d.out)).trans h8d.out
    replace nd3 := Lib.hid (nd3.out.below b9)
    have hLg := Lib.hid (hLd.trans (b9.mono hLd.size))
    obtain ⟨A9', c9', e9, hr9⟩ := hpk9.rds
    obtain ⟨rfl, rfl⟩ : A9 = A9' ∧ c9 = c9' := by injection e9 with e1 e2 e3; exact ⟨e1, e3⟩
    have e1 := block_at h5d (i := 1) (v := .slice (some ⟨gc, 0, none⟩) 0 0) rfl
    have e3 := block_at h8d (i := 1) (v := .slice (some ⟨gd, 0, none⟩) zs.length zs.length) rfl
    replace hr9 := Lib.hid hr9
    replace h5d := Lib.hid h5d
    replace h8d := Lib.hid h8d
    clear e9 hpk9 bb bb9 b9 hLd hLf
    go_wp2_with fail
    refine (lists_n _ _ _ _ _ _ zs rfl (nd3.out.rds smz) hr9.out (by omega)).mono ?_
    rintro e wh ⟨rfl, bb⟩
    have hLh := Lib.hid (hLg.out.trans (bb.mono hLg.out.size))
    clear bb hLg e1 e3
    go_wp2_with fail
    refine (lives_any wh).mono ?_
    rintro e wi ⟨rfl, bb⟩
    have hLi := Lib.hid (hLh.out.trans (bb.mono hLh.out.size))
    clear bb hLh
    go_wp2
    go_ret
    exact ⟨rfl, hLi.out⟩

theorem lawClear_any (w : World) (A A2 : Option Addr) (c c2 : Nat) (ps : List (List UInt8)) (h : Rds w w.heap.size A c ps) (xs : List UInt8) (h2 : Rd w w.heap.size A2 c2 xs) :
    Calls Try.prog 7 #[.slice A ps.length c, .slice A2 xs.length c2] w (ResB w true) := by
  by_cases hs : SmallP ps 40
  · rcases Nat.lt_or_ge 300 xs.length with hn | hn
    · exact clear_many w A A2 c c2 xs.length ps h hs hn
    · exact clear_good w A A2 c c2 ps h hs xs h2 hn
  · exact clear_small w A A2 c c2 xs.length ps h hs

end Go.Proofs.Ytodbjdpbigboiaa

/-
  The law TogglesSteps, one of its good ways; no statement is proved here.
-/
import Derived.Test.YtjilbgdenolllaaLawStH
namespace Go.Proofs.Ytjilbgdenolllaa
open Go Go.RowKit

set_option maxHeartbeats 3200000 in
set_option maxRecDepth 100000 in
theorem lsteps_st (w : World) (st : Bool) (A A' A2 : Option Addr) (c c' c2 : Nat) (ps qs : List (List UInt8)) (h : Rds w w.heap.size A c ps) (h' : Rds w w.heap.size A' c' qs) (hs : SmallP ps 20) (hs' : SmallP qs 20) (xs : List UInt8) (h2 : Rd w w.heap.size A2 c2 xs) (hn : xs.length ≤ 64) (hz : RowKit.Hid (0 < ps.length)) :
    Calls Try.prog 4 #[sv st (.slice A ps.length c), sv true (.slice A' qs.length c'), .slice A2 xs.length c2] w (ResB w true) := by
  have hb := Lib.hid (((Below.refl w.heap.size w).alloc (Nat.le_refl _) (.cells #[.bool st, .slice A ps.length c] 28)).alloc (by simp) (.cells #[.bool true, .slice A' qs.length c'] 39))
  have b3 := Lib.hid (heap_alloc2_old w (.cells #[.bool st, .slice A ps.length c] 28) (.cells #[.bool true, .slice A' qs.length c'] 39))
  have b4 := Lib.hid (heap_alloc2_new w (.cells #[.bool st, .slice A ps.length c] 28) (.cells #[.bool true, .slice A' qs.length c'] 39))
  have H := h.belowTop hb.out
  have H' := h'.belowTop hb.out
  have H2 := h2.belowTop hb.out
  have hn' : ¬ (64 : Int) < (xs.length : Int) := by omega
  go_enter Try.func4, Try.ntmps4
  go_wp2_with fail
  refine (small_yes _ A c ps H 20 (by omega) hs).mono ?_
  rintro e w1 ⟨rfl, rfl⟩
  go_wp2_with fail
  refine (small_yes _ A' c' qs H' 20 (by omega) hs').mono ?_
  rintro e w1 ⟨rfl, rfl⟩
  go_wp2
  generalize (w.alloc (.cells #[.bool st, .slice A ps.length c] 28)).alloc (.cells #[.bool true, .slice A' qs.length c'] 39) = W0 at hb b3 b4 H H' H2 ⊢
  generalize hg3 : w.heap.size = g3 at b3 b4 ⊢
  generalize hg4 : g3 + 1 = g4 at b4 ⊢
  have l3 := block_lt b3.out
  have l4 := block_lt b4.out
  have e31 := block_at b3.out (i := 1) (v := .slice A ps.length c) rfl
  have e41 := block_at b4.out (i := 1) (v := .slice A' qs.length c') rfl
  have KC1 := Lib.hid (fun (W : World) (hW : Below W0.heap.size W0 W) => clone_any W A c ps ((H.below hW).more hW.size) (hs.sml (by omega)))
  have KC2 := Lib.hid (fun (W : World) (hW : Below W0.heap.size W0 W) => clone_any W A' c' qs ((H'.below hW).more hW.size) (hs'.sml (by omega)))
  have hW : Below W0.heap.size W0 W0.drew := (Below.refl _ _).drew
  have cv1 := Lib.hid (fun W (hW : Sm (fun a => a.block < W0.heap.size) W0.drew W) => (H2.keep (w' := W) fun p hp => hW p hp).cv)
  replace H2 := Lib.hid H2
  refine startT (S := fun a => a.block < W0.heap.size) (T := []) 11 (by kernel_rfl) rfl (l := #[false, false, false, false, false, false, false, false, false, false, false]) rfl ?_
  ((first | (refine takeT 0 (v := ?_) rfl (by decide +kernel) (by decide +kernel) (by decide +kernel) (fun _ _ _ h => h) (by decide +kernel) (Or.inl ⟨by rfl, ?_⟩) ?_; rotate_left 1; (focus (intro W hW; have hcW := hW.at; (try dsimp only at hcW); go_simp; first | done | with_reducible rfl)); try simp only [Act.put, List.setIfInBounds_toArray, List.set_cons_zero, List.set_cons_succ]) | (refine takeW 0 (v := ?_) rfl (by decide +kernel) (by decide +kernel) (by decide +kernel) (fun _ _ _ h => h) (Or.inl ⟨by rfl, ?_⟩) ?_; rotate_left 1; (focus (intro W hW; go_simp; first | done | with_reducible rfl)); try simp only [Act.put, List.setIfInBounds_toArray, List.set_cons_zero, List.set_cons_succ]) | (refine takeW 0 rfl (by decide +kernel) (by decide +kernel) (by decide +kernel) (fun _ _ _ h => h) (Or.inr ⟨by rfl, rfl⟩) ?_; try simp only [Act.put, List.setIfInBounds_toArray, List.set_cons_zero, List.set_cons_succ]) | skip); (first | (refine takeT 1 (v := ?_) rfl (by decide +kernel) (by decide +kernel) (by decide +kernel) (fun _ _ _ h => h) (by decide +kernel) (Or.inl ⟨by rfl, ?_⟩) ?_; rotate_left 1; (focus (intro W hW; have hcW := hW.at; (try dsimp only at hcW); go_simp; first | done | with_reducible rfl)); try simp only [Act.put, List.setIfInBounds_toArray, List.set_cons_zero, List.set_cons_succ]) | (refine takeW 1 (v := ?_) rfl (by decide +kernel) (by decide +kernel) (by decide +kernel) (fun _ _ _ h => h) (Or.inl ⟨by rfl, ?_⟩) ?_; rotate_left 1; (focus (intro W hW; go_simp; first | done | with_reducible rfl)); try simp only [Act.put, List.setIfInBounds_toArray, List.set_cons_zero, List.set_cons_succ]) | (refine takeW 1 rfl (by decide +kernel) (by decide +kernel) (by decide +kernel) (fun _ _ _ h => h) (Or.inr ⟨by rfl, rfl⟩) ?_; try simp only [Act.put, List.setIfInBounds_toArray, List.set_cons_zero, List.set_cons_succ]) | skip))
  ((first | (refine takeT 3 (v := ?_) rfl (by decide +kernel) (by decide +kernel) (by decide +kernel) (fun _ _ _ h => h) (by decide +kernel) (Or.inl ⟨by rfl, ?_⟩) ?_; rotate_left 1; (focus (intro W hW; have hcW := hW.at; (try dsimp only at hcW); go_simp; first | done | with_reducible rfl)); try simp only [Act.put, List.setIfInBounds_toArray, List.set_cons_zero, List.set_cons_succ]) | (refine takeW 3 (v := ?_) rfl (by decide +kernel) (by decide +kernel) (by decide +kernel) (fun _ _ _ h => h) (Or.inl ⟨by rfl, ?_⟩) ?_; rotate_left 1; (focus (intro W hW; go_simp; first | done | with_reducible rfl)); try simp only [Act.put, List.setIfInBounds_toArray, List.set_cons_zero, List.set_cons_succ]) | (refine takeW 3 rfl (by decide +kernel) (by decide +kernel) (by decide +kernel) (fun _ _ _ h => h) (Or.inr ⟨by rfl, rfl⟩) ?_; try simp only [Act.put, List.setIfInBounds_toArray, List.set_cons_zero, List.set_cons_succ]) | skip); (first | (refine takeT 4 (v := ?_) rfl (by decide +kernel) (by decide +kernel) (by decide +kernel) (fun _ _ _ h => h) (by decide +kernel) (Or.inl ⟨by rfl, ?_⟩) ?_; rotate_left 1; (focus (intro W hW; have hcW := hW.at; (try dsimp only at hcW); go_simp; first | done | with_reducible rfl)); try simp only [Act.put, List.setIfInBounds_toArray, List.set_cons_zero, List.set_cons_succ]) | (refine takeW 4 (v := ?_) rfl (by decide +kernel) (by decide +kernel) (by decide +kernel) (fun _ _ _ h => h) (Or.inl ⟨by rfl, ?_⟩) ?_; rotate_left 1; (focus (intro W hW; go_simp; first | done | with_reducible rfl)); try simp only [Act.put, List.setIfInBounds_toArray, List.set_cons_zero, List.set_cons_succ]) | (refine takeW 4 rfl (by decide +kernel) (by decide +kernel) (by decide +kernel) (fun _ _ _ h => h) (Or.inr ⟨by rfl, rfl⟩) ?_; try simp only [Act.put, List.setIfInBounds_toArray, List.set_cons_zero, List.set_cons_succ]) | skip))
  ((first | (refine takeT 6 (v := ?_) rfl (by decide +kernel) (by decide +kernel) (by decide +kernel) (fun _ _ _ h => h) (by decide +kernel) (Or.inl ⟨by rfl, ?_⟩) ?_; rotate_left 1; (focus (intro W hW; have hcW := hW.at; (try dsimp only at hcW); go_simp; first | done | with_reducible rfl)); try simp only [Act.put, List.setIfInBounds_toArray, List.set_cons_zero, List.set_cons_succ]) | (refine takeW 6 (v := ?_) rfl (by decide +kernel) (by decide +kernel) (by decide +kernel) (fun _ _ _ h => h) (Or.inl ⟨by rfl, ?_⟩) ?_; rotate_left 1; (focus (intro W hW; go_simp; first | done | with_reducible rfl)); try simp only [Act.put, List.setIfInBounds_toArray, List.set_cons_zero, List.set_cons_succ]) | (refine takeW 6 rfl (by decide +kernel) (by decide +kernel) (by decide +kernel) (fun _ _ _ h => h) (Or.inr ⟨by rfl, rfl⟩) ?_; try simp only [Act.put, List.setIfInBounds_toArray, List.set_cons_zero, List.set_cons_succ]) | skip))
  refine takeT 7 (v := .string ⟨xs.toArray⟩) rfl (by decide +kernel) (by decide +kernel) (by decide +kernel) (fun _ _ _ h => h) (by decide +kernel) (Or.inl ⟨by rfl, ?_⟩) ?_
  · intro W hW
    have q := cv1.out W hW
    go_simp
    first | done | with_reducible rfl
  try simp only [Act.put, List.setIfInBounds_toArray, List.set_cons_zero, List.set_cons_succ]
  clear cv1 e31 e41
  generalize W0.drew = v0 at hW ⊢
  refine stepT 2 rfl (by decide +kernel) (by rfl) ?_
  intro K hK
  go_simp
  refine (KC1.out v0 hW).mono ?_
  rintro e v1 ⟨x1, rfl, p1, bb⟩
  obtain ⟨A5, c5, rfl⟩ := p1.shape
  refine hK _ _ (.inr (smB hW.size bb)) ?_
  replace p1 := Lib.hid p1
  replace hW := hW.trans (bb.mono hW.size)
  clear hK K bb
  try simp only [List.setIfInBounds_toArray, List.set_cons_zero, List.set_cons_succ]
  refine stepT 5 rfl (by decide +kernel) (by rfl) ?_
  intro K hK
  go_simp
  refine (KC2.out v1 hW).mono ?_
  rintro e v2 ⟨x2, rfl, p2, bb⟩
  obtain ⟨A6, c6, rfl⟩ := p2.shape
  refine hK _ _ (.inr (smB hW.size bb)) ?_
  replace p1 := Lib.hid (p1.out.below bb)
  replace p2 := Lib.hid p2
  replace hW := hW.trans (bb.mono hW.size)
  clear hK K bb
  try simp only [List.setIfInBounds_toArray, List.set_cons_zero, List.set_cons_succ]
  ((first | (refine takeT 8 (v := ?_) rfl (by decide +kernel) (by decide +kernel) (by decide +kernel) (fun _ _ _ h => h) (by decide +kernel) (Or.inl ⟨by rfl, ?_⟩) ?_; rotate_left 1; (focus (intro W hW; have hcW := hW.at; (try dsimp only at hcW); go_simp; first | done | with_reducible rfl)); try simp only [Act.put, List.setIfInBounds_toArray, List.set_cons_zero, List.set_cons_succ]) | (refine takeW 8 (v := ?_) rfl (by decide +kernel) (by decide +kernel) (by decide +kernel) (fun _ _ _ h => h) (Or.inl ⟨by rfl, ?_⟩) ?_; rotate_left 1; (focus (intro W hW; go_simp; first | done | with_reducible rfl)); try simp only [Act.put, List.setIfInBounds_toArray, List.set_cons_zero, List.set_cons_succ]) | (refine takeW 8 rfl (by decide +kernel) (by decide +kernel) (by decide +kernel) (fun _ _ _ h => h) (Or.inr ⟨by rfl, rfl⟩) ?_; try simp only [Act.put, List.setIfInBounds_toArray, List.set_cons_zero, List.set_cons_succ]) | skip); (first | (refine takeT 9 (v := ?_) rfl (by decide +kernel) (by decide +kernel) (by decide +kernel) (fun _ _ _ h => h) (by decide +kernel) (Or.inl ⟨by rfl, ?_⟩) ?_; rotate_left 1; (focus (intro W hW; have hcW := hW.at; (try dsimp only at hcW); go_simp; first | done | with_reducible rfl)); try simp only [Act.put, List.setIfInBounds_toArray, List.set_cons_zero, List.set_cons_succ]) | (refine takeW 9 (v := ?_) rfl (by decide +kernel) (by decide +kernel) (by decide +kernel) (fun _ _ _ h => h) (Or.inl ⟨by rfl, ?_⟩) ?_; rotate_left 1; (focus (intro W hW; go_simp; first | done | with_reducible rfl)); try simp only [Act.put, List.setIfInBounds_toArray, List.set_cons_zero, List.set_cons_succ]) | (refine takeW 9 rfl (by decide +kernel) (by decide +kernel) (by decide +kernel) (fun _ _ _ h => h) (Or.inr ⟨by rfl, rfl⟩) ?_; try simp only [Act.put, List.setIfInBounds_toArray, List.set_cons_zero, List.set_cons_succ]) | skip); (first | (refine takeT 10 (v := ?_) rfl (by decide +kernel) (by decide +kernel) (by decide +kernel) (fun _ _ _ h => h) (by decide +kernel) (Or.inl ⟨by rfl, ?_⟩) ?_; rotate_left 1; (focus (intro W hW; have hcW := hW.at; (try dsimp only at hcW); go_simp; first | done | with_reducible rfl)); try simp only [Act.put, List.setIfInBounds_toArray, List.set_cons_zero, List.set_cons_succ]) | (refine takeW 10 (v := ?_) rfl (by decide +kernel) (by decide +kernel) (by decide +kernel) (fun _ _ _ h => h) (Or.inl ⟨by rfl, ?_⟩) ?_; rotate_left 1; (focus (intro W hW; go_simp; first | done | with_reducible rfl)); try simp only [Act.put, List.setIfInBounds_toArray, List.set_cons_zero, List.set_cons_succ]) | (refine takeW 10 rfl (by decide +kernel) (by decide +kernel) (by decide +kernel) (fun _ _ _ h => h) (Or.inr ⟨by rfl, rfl⟩) ?_; try simp only [Act.put, List.setIfInBounds_toArray, List.set_cons_zero, List.set_cons_succ]) | skip))
  refine doneT (by kernel_rfl) ?_
  have e30 := block_at ((hW.block _ l3).trans b3.out) (i := 0) (v := .bool st) rfl
  have e31 := block_at ((hW.block _ l3).trans b3.out) (i := 1) (v := .slice A ps.length c) rfl
  go_wp2_with fail
  rename_i K1 a1 K2 a2
  replace a1 := Lib.hid a1
  have HX : Cx v2.heap.size g3 g4 st true A A' A2 A5 A6 c c' c2 c5 c6 ps qs xs v2 v2 :=
    ⟨(hW.block _ l3).trans b3.out, (hW.block _ l4).trans b4.out, Nat.lt_of_lt_of_le l3 hW.size, Nat.lt_of_lt_of_le l4 hW.size, (H.below hW).more hW.size, (H'.below hW).more hW.size, (H2.out.below hW).more hW.size, pk_rds p1.out, pk_rds p2.out, Below.refl _ _, Nat.le_refl _⟩
  have hBW : Below w.heap.size w v2 := hb.out.trans (hW.mono hb.out.size)
  replace HX := Lib.hid HX
  replace hBW := Lib.hid hBW
  have hps := Lib.hid (hs.sml (by omega : (20 : Nat) ≤ 100))
  have hqs := Lib.hid (hs'.sml (by omega : (20 : Nat) ≤ 100))
  have hq20 : qs.length ≤ 10000 := by have := hs'.1; omega
  clear H H' H2 p1 p2 b3 b4 hb KC1 KC2 hs hs' h h' h2
  have hz2 : ¬ (ps.length : Int) = 0 := by have := hz.out; omega
  have hz3 : (1 : Int) ≤ (ps.length : Int) := by have := hz.out; omega
  have KA := acks_some v2 st A c ps HX.out.s hz.out hps.out
  obtain ⟨A9, c9, hsl, hr9⟩ := HX.out.l.from_ (k := 1) (by have := hz.out; omega)
  have hle5 := HX.out.l.le
  obtain ⟨ds, hds⟩ : ∃ ds, ps.drop 1 = ds := ⟨_, rfl⟩
  have hdl : ps.length - 1 = ds.length := by rw [← hds, List.length_drop]
  have hdsm := hps.out.drop 1
  rw [hds] at KA hr9 hdsm
  rw [hdl] at hsl
  replace hdsm := Lib.hid hdsm
  replace hr9 := Lib.hid hr9
  replace hsl := Lib.hid hsl
  clear hds hdl
  refine KA.mono ?_
  rintro e v3 ⟨ga, rfl, hna, bb⟩
  have HX3 := HX.out.next bb
  have hal := (Below.refl v3.heap.size v3).alloc (Nat.le_refl _) (.cells #[.bool (!st), .slice (some ⟨ga, 0, none⟩) ds.length ds.length] 28)
  have h10 := heap_alloc_new v3 (.cells #[.bool (!st), .slice (some ⟨ga, 0, none⟩) ds.length ds.length] 28)
  have HX4 := HX3.next hal
  have hna4 := hna.below hal
  replace h10 := Lib.hid h10
  replace HX4 := Lib.hid HX4
  replace hna4 := Lib.hid hna4
  clear bb HX3 hna hal KA e30 e31
  go_wp2_with fail
  refine a1.out _ _ ?_
  clear a1
  go_wp2_with fail
  generalize v3.alloc (.cells #[.bool (!st), .slice (some ⟨ga, 0, none⟩) ds.length ds.length] 28) = V3 at HX4 hna4 h10 ⊢
  generalize v3.heap.size = g10 at h10 ⊢
  have e100 := block_at h10.out (i := 0) (v := .bool (!st)) rfl
  have e101 := block_at h10.out (i := 1) (v := .slice (some ⟨ga, 0, none⟩) ds.length ds.length) rfl
  have e30 := block_at HX4.out.b3 (i := 0) (v := .bool st) rfl
  have hg10 := block_lt h10.out
  have hg3' : g3 < V3.heap.size := Nat.lt_of_lt_of_le HX4.out.l3 HX4.out.le
  refine startT (S := fun a => a.block < V3.heap.size) (T := []) 17 (by kernel_rfl) rfl (l := #[false, false, false, false, false, false, false, false, false, false, false, false, false, false, false, false, false]) rfl ?_
  ((first | (refine takeT 0 (v := ?_) rfl (by decide +kernel) (by decide +kernel) (by decide +kernel) (fun _ _ _ h => h) (by decide +kernel) (Or.inl ⟨by rfl, ?_⟩) ?_; rotate_left 1; (focus (intro W hW; have hcW := hW.at; (try dsimp only at hcW); go_simp; first | done | with_reducible rfl)); try simp only [Act.put, List.setIfInBounds_toArray, List.set_cons_zero, List.set_cons_succ]) | (refine takeW 0 (v := ?_) rfl (by decide +kernel) (by decide +kernel) (by decide +kernel) (fun _ _ _ h => h) (Or.inl ⟨by rfl, ?_⟩) ?_; rotate_left 1; (focus (intro W hW; go_simp; first | done | with_reducible rfl)); try simp only [Act.put, List.setIfInBounds_toArray, List.set_cons_zero, List.set_cons_succ]) | (refine takeW 0 rfl (by decide +kernel) (by decide +kernel) (by decide +kernel) (fun _ _ _ h => h) (Or.inr ⟨by rfl, rfl⟩) ?_; try simp only [Act.put, List.setIfInBounds_toArray, List.set_cons_zero, List.set_cons_succ]) | skip); (first | (refine takeT 1 (v := ?_) rfl (by decide +kernel) (by decide +kernel) (by decide +kernel) (fun _ _ _ h => h) (by decide +kernel) (Or.inl ⟨by rfl, ?_⟩) ?_; rotate_left 1; (focus (intro W hW; have hcW := hW.at; (try dsimp only at hcW); go_simp; first | done | with_reducible rfl)); try simp only [Act.put, List.setIfInBounds_toArray, List.set_cons_zero, List.set_cons_succ]) | (refine takeW 1 (v := ?_) rfl (by decide +kernel) (by decide +kernel) (by decide +kernel) (fun _ _ _ h => h) (Or.inl ⟨by rfl, ?_⟩) ?_; rotate_left 1; (focus (intro W hW; go_simp; first | done | with_reducible rfl)); try simp only [Act.put, List.setIfInBounds_toArray, List.set_cons_zero, List.set_cons_succ]) | (refine takeW 1 rfl (by decide +kernel) (by decide +kernel) (by decide +kernel) (fun _ _ _ h => h) (Or.inr ⟨by rfl, rfl⟩) ?_; try simp only [Act.put, List.setIfInBounds_toArray, List.set_cons_zero, List.set_cons_succ]) | skip); (first | (refine takeT 2 (v := ?_) rfl (by decide +kernel) (by decide +kernel) (by decide +kernel) (fun _ _ _ h => h) (by decide +kernel) (Or.inl ⟨by rfl, ?_⟩) ?_; rotate_left 1; (focus (intro W hW; have hcW := hW.at; (try dsimp only at hcW); go_simp; first | done | with_reducible rfl)); try simp only [Act.put, List.setIfInBounds_toArray, List.set_cons_zero, List.set_cons_succ]) | (refine takeW 2 (v := ?_) rfl (by decide +kernel) (by decide +kernel) (by decide +kernel) (fun _ _ _ h => h) (Or.inl ⟨by rfl, ?_⟩) ?_; rotate_left 1; (focus (intro W hW; go_simp; first | done | with_reducible rfl)); try simp only [Act.put, List.setIfInBounds_toArray, List.set_cons_zero, List.set_cons_succ]) | (refine takeW 2 rfl (by decide +kernel) (by decide +kernel) (by decide +kernel) (fun _ _ _ h => h) (Or.inr ⟨by rfl, rfl⟩) ?_; try simp only [Act.put, List.setIfInBounds_toArray, List.set_cons_zero, List.set_cons_succ]) | skip); (first | (refine takeT 3 (v := ?_) rfl (by decide +kernel) (by decide +kernel) (by decide +kernel) (fun _ _ _ h => h) (by decide +kernel) (Or.inl ⟨by rfl, ?_⟩) ?_; rotate_left 1; (focus (intro W hW; have hcW := hW.at; (try dsimp only at hcW); go_simp; first | done | with_reducible rfl)); try simp only [Act.put, List.setIfInBounds_toArray, List.set_cons_zero, List.set_cons_succ]) | (refine takeW 3 (v := ?_) rfl (by decide +kernel) (by decide +kernel) (by decide +kernel) (fun _ _ _ h => h) (Or.inl ⟨by rfl, ?_⟩) ?_; rotate_left 1; (focus (intro W hW; go_simp; first | done | with_reducible rfl)); try simp only [Act.put, List.setIfInBounds_toArray, List.set_cons_zero, List.set_cons_succ]) | (refine takeW 3 rfl (by decide +kernel) (by decide +kernel) (by decide +kernel) (fun _ _ _ h => h) (Or.inr ⟨by rfl, rfl⟩) ?_; try simp only [Act.put, List.setIfInBounds_toArray, List.set_cons_zero, List.set_cons_succ]) | skip); (first | (refine takeT 4 (v := ?_) rfl (by decide +kernel) (by decide +kernel) (by decide +kernel) (fun _ _ _ h => h) (by decide +kernel) (Or.inl ⟨by rfl, ?_⟩) ?_; rotate_left 1; (focus (intro W hW; have hcW := hW.at; (try dsimp only at hcW); go_simp; first | done | with_reducible rfl)); try simp only [Act.put, List.setIfInBounds_toArray, List.set_cons_zero, List.set_cons_succ]) | (refine takeW 4 (v := ?_) rfl (by decide +kernel) (by decide +kernel) (by decide +kernel) (fun _ _ _ h => h) (Or.inl ⟨by rfl, ?_⟩) ?_; rotate_left 1; (focus (intro W hW; go_simp; first | done | with_reducible rfl)); try simp only [Act.put, List.setIfInBounds_toArray, List.set_cons_zero, List.set_cons_succ]) | (refine takeW 4 rfl (by decide +kernel) (by decide +kernel) (by decide +kernel) (fun _ _ _ h => h) (Or.inr ⟨by rfl, rfl⟩) ?_; try simp only [Act.put, List.setIfInBounds_toArray, List.set_cons_zero, List.set_cons_succ]) | skip); (first | (refine takeT 5 (v := ?_) rfl (by decide +kernel) (by decide +kernel) (by decide +kernel) (fun _ _ _ h => h) (by decide +kernel) (Or.inl ⟨by rfl, ?_⟩) ?_; rotate_left 1; (focus (intro W hW; have hcW := hW.at; (try dsimp only at hcW); go_simp; first | done | with_reducible rfl)); try simp only [Act.put, List.setIfInBounds_toArray, List.set_cons_zero, List.set_cons_succ]) | (refine takeW 5 (v := ?_) rfl (by decide +kernel) (by decide +kernel) (by decide +kernel) (fun _ _ _ h => h) (Or.inl ⟨by rfl, ?_⟩) ?_; rotate_left 1; (focus (intro W hW; go_simp; first | done | with_reducible rfl)); try simp only [Act.put, List.setIfInBounds_toArray, List.set_cons_zero, List.set_cons_succ]) | (refine takeW 5 rfl (by decide +kernel) (by decide +kernel) (by decide +kernel) (fun _ _ _ h => h) (Or.inr ⟨by rfl, rfl⟩) ?_; try simp only [Act.put, List.setIfInBounds_toArray, List.set_cons_zero, List.set_cons_succ]) | skip))
  refine takeT 6 (v := .slice A9 ds.length c9) rfl (by decide +kernel) (by decide +kernel) (by decide +kernel) (fun _ _ _ h => h) (by decide +kernel) (Or.inl ⟨by rfl, ?_⟩) ?_
  · intro W hW
    have q := hsl.out
    simp [sliced] at q
    go_simp
    first | done | exact ⟨q.1, q.2.1, q.2.2⟩ | exact ⟨q.1, q.2.2⟩ | exact ⟨q.1, q.2⟩ | exact q | exact q.1 | exact q.2 | trace_state
  try simp only [Act.put, List.setIfInBounds_toArray, List.set_cons_zero, List.set_cons_succ]
  refine stepT 7 rfl (by decide +kernel) (by rfl) (fun K hK => ?_)
  go_simp
  refine (lists_any V3.drew (some ⟨ga, 0, none⟩) A9 ds.length c9 ds (hna4.out.rds hdsm.out).drew ((hr9.out.below HX4.out.bel).more HX4.out.le).drew (by have := hdsm.out.1; omega)).mono ?_
  rintro e w5 ⟨rfl, hB5⟩
  replace hB5 : Below V3.heap.size V3 w5 := below_undrew hB5
  have e100' := (hB5.cell (p := ⟨g10, 0, none⟩) hg10).trans e100
  have e30' := (hB5.cell (p := ⟨g3, 0, none⟩) hg3').trans e30
  refine hK _ _ (.inr fun a ha => hB5.cell ha) ?_
  clear hK K e100 e101 e30
  try simp only [List.setIfInBounds_toArray, List.set_cons_zero, List.set_cons_succ]
  ((first | (refine takeT 8 (v := ?_) rfl (by decide +kernel) (by decide +kernel) (by decide +kernel) (fun _ _ _ h => h) (by decide +kernel) (Or.inl ⟨by rfl, ?_⟩) ?_; rotate_left 1; (focus (intro W hW; have hcW := hW.at; (try dsimp only at hcW); go_simp; first | done | with_reducible rfl)); try simp only [Act.put, List.setIfInBounds_toArray, List.set_cons_zero, List.set_cons_succ]) | (refine takeW 8 (v := ?_) rfl (by decide +kernel) (by decide +kernel) (by decide +kernel) (fun _ _ _ h => h) (Or.inl ⟨by rfl, ?_⟩) ?_; rotate_left 1; (focus (intro W hW; go_simp; first | done | with_reducible rfl)); try simp only [Act.put, List.setIfInBounds_toArray, List.set_cons_zero, List.set_cons_succ]) | (refine takeW 8 rfl (by decide +kernel) (by decide +kernel) (by decide +kernel) (fun _ _ _ h => h) (Or.inr ⟨by rfl, rfl⟩) ?_; try simp only [Act.put, List.setIfInBounds_toArray, List.set_cons_zero, List.set_cons_succ]) | skip); (first | (refine takeT 9 (v := ?_) rfl (by decide +kernel) (by decide +kernel) (by decide +kernel) (fun _ _ _ h => h) (by decide +kernel) (Or.inl ⟨by rfl, ?_⟩) ?_; rotate_left 1; (focus (intro W hW; have hcW := hW.at; (try dsimp only at hcW); go_simp; first | done | with_reducible rfl)); try simp only [Act.put, List.setIfInBounds_toArray, List.set_cons_zero, List.set_cons_succ]) | (refine takeW 9 (v := ?_) rfl (by decide +kernel) (by decide +kernel) (by decide +kernel) (fun _ _ _ h => h) (Or.inl ⟨by rfl, ?_⟩) ?_; rotate_left 1; (focus (intro W hW; go_simp; first | done | with_reducible rfl)); try simp only [Act.put, List.setIfInBounds_toArray, List.set_cons_zero, List.set_cons_succ]) | (refine takeW 9 rfl (by decide +kernel) (by decide +kernel) (by decide +kernel) (fun _ _ _ h => h) (Or.inr ⟨by rfl, rfl⟩) ?_; try simp only [Act.put, List.setIfInBounds_toArray, List.set_cons_zero, List.set_cons_succ]) | skip); (first | (refine takeT 10 (v := ?_) rfl (by decide +kernel) (by decide +kernel) (by decide +kernel) (fun _ _ _ h => h) (by decide +kernel) (Or.inl ⟨by rfl, ?_⟩) ?_; rotate_left 1; (focus (intro W hW; have hcW := hW.at; (try dsimp only at hcW); go_simp; first | done | with_reducible rfl)); try simp only [Act.put, List.setIfInBounds_toArray, List.set_cons_zero, List.set_cons_succ]) | (refine takeW 10 (v := ?_) rfl (by decide +kernel) (by decide +kernel) (by decide +kernel) (fun _ _ _ h => h) (Or.inl ⟨by rfl, ?_⟩) ?_; rotate_left 1; (focus (intro W hW; go_simp; first | done | with_reducible rfl)); try simp only [Act.put, List.setIfInBounds_toArray, List.set_cons_zero, List.set_cons_succ]) | (refine takeW 10 rfl (by decide +kernel) (by decide +kernel) (by decide +kernel) (fun _ _ _ h => h) (Or.inr ⟨by rfl, rfl⟩) ?_; try simp only [Act.put, List.setIfInBounds_toArray, List.set_cons_zero, List.set_cons_succ]) | skip); (first | (refine takeT 11 (v := ?_) rfl (by decide +kernel) (by decide +kernel) (by decide +kernel) (fun _ _ _ h => h) (by decide +kernel) (Or.inl ⟨by rfl, ?_⟩) ?_; rotate_left 1; (focus (intro W hW; have hcW := hW.at; (try dsimp only at hcW); go_simp; first | done | with_reducible rfl)); try simp only [Act.put, List.setIfInBounds_toArray, List.set_cons_zero, List.set_cons_succ]) | (refine takeW 11 (v := ?_) rfl (by decide +kernel) (by decide +kernel) (by decide +kernel) (fun _ _ _ h => h) (Or.inl ⟨by rfl, ?_⟩) ?_; rotate_left 1; (focus (intro W hW; go_simp; first | done | with_reducible rfl)); try simp only [Act.put, List.setIfInBounds_toArray, List.set_cons_zero, List.set_cons_succ]) | (refine takeW 11 rfl (by decide +kernel) (by decide +kernel) (by decide +kernel) (fun _ _ _ h => h) (Or.inr ⟨by rfl, rfl⟩) ?_; try simp only [Act.put, List.setIfInBounds_toArray, List.set_cons_zero, List.set_cons_succ]) | skip); (first | (refine takeT 12 (v := ?_) rfl (by decide +kernel) (by decide +kernel) (by decide +kernel) (fun _ _ _ h => h) (by decide +kernel) (Or.inl ⟨by rfl, ?_⟩) ?_; rotate_left 1; (focus (intro W hW; have hcW := hW.at; (try dsimp only at hcW); go_simp; first | done | with_reducible rfl)); try simp only [Act.put, List.setIfInBounds_toArray, List.set_cons_zero, List.set_cons_succ]) | (refine takeW 12 (v := ?_) rfl (by decide +kernel) (by decide +kernel) (by decide +kernel) (fun _ _ _ h => h) (Or.inl ⟨by rfl, ?_⟩) ?_; rotate_left 1; (focus (intro W hW; go_simp; first | done | with_reducible rfl)); try simp only [Act.put, List.setIfInBounds_toArray, List.set_cons_zero, List.set_cons_succ]) | (refine takeW 12 rfl (by decide +kernel) (by decide +kernel) (by decide +kernel) (fun _ _ _ h => h) (Or.inr ⟨by rfl, rfl⟩) ?_; try simp only [Act.put, List.setIfInBounds_toArray, List.set_cons_zero, List.set_cons_succ]) | skip); (first | (refine takeT 13 (v := ?_) rfl (by decide +kernel) (by decide +kernel) (by decide +kernel) (fun _ _ _ h => h) (by decide +kernel) (Or.inl ⟨by rfl, ?_⟩) ?_; rotate_left 1; (focus (intro W hW; have hcW := hW.at; (try dsimp only at hcW); go_simp; first | done | with_reducible rfl)); try simp only [Act.put, List.setIfInBounds_toArray, List.set_cons_zero, List.set_cons_succ]) | (refine takeW 13 (v := ?_) rfl (by decide +kernel) (by decide +kernel) (by decide +kernel) (fun _ _ _ h => h) (Or.inl ⟨by rfl, ?_⟩) ?_; rotate_left 1; (focus (intro W hW; go_simp; first | done | with_reducible rfl)); try simp only [Act.put, List.setIfInBounds_toArray, List.set_cons_zero, List.set_cons_succ]) | (refine takeW 13 rfl (by decide +kernel) (by decide +kernel) (by decide +kernel) (fun _ _ _ h => h) (Or.inr ⟨by rfl, rfl⟩) ?_; try simp only [Act.put, List.setIfInBounds_toArray, List.set_cons_zero, List.set_cons_succ]) | skip); (first | (refine takeT 14 (v := ?_) rfl (by decide +kernel) (by decide +kernel) (by decide +kernel) (fun _ _ _ h => h) (by decide +kernel) (Or.inl ⟨by rfl, ?_⟩) ?_; rotate_left 1; (focus (intro W hW; have hcW := hW.at; (try dsimp only at hcW); go_simp; first | done | with_reducible rfl)); try simp only [Act.put, List.setIfInBounds_toArray, List.set_cons_zero, List.set_cons_succ]) | (refine takeW 14 (v := ?_) rfl (by decide +kernel) (by decide +kernel) (by decide +kernel) (fun _ _ _ h => h) (Or.inl ⟨by rfl, ?_⟩) ?_; rotate_left 1; (focus (intro W hW; go_simp; first | done | with_reducible rfl)); try simp only [Act.put, List.setIfInBounds_toArray, List.set_cons_zero, List.set_cons_succ]) | (refine takeW 14 rfl (by decide +kernel) (by decide +kernel) (by decide +kernel) (fun _ _ _ h => h) (Or.inr ⟨by rfl, rfl⟩) ?_; try simp only [Act.put, List.setIfInBounds_toArray, List.set_cons_zero, List.set_cons_succ]) | skip); (first | (refine takeT 15 (v := ?_) rfl (by decide +kernel) (by decide +kernel) (by decide +kernel) (fun _ _ _ h => h) (by decide +kernel) (Or.inl ⟨by rfl, ?_⟩) ?_; rotate_left 1; (focus (intro W hW; have hcW := hW.at; (try dsimp only at hcW); go_simp; first | done | with_reducible rfl)); try simp only [Act.put, List.setIfInBounds_toArray, List.set_cons_zero, List.set_cons_succ]) | (refine takeW 15 (v := ?_) rfl (by decide +kernel) (by decide +kernel) (by decide +kernel) (fun _ _ _ h => h) (Or.inl ⟨by rfl, ?_⟩) ?_; rotate_left 1; (focus (intro W hW; go_simp; first | done | with_reducible rfl)); try simp only [Act.put, List.setIfInBounds_toArray, List.set_cons_zero, List.set_cons_succ]) | (refine takeW 15 rfl (by decide +kernel) (by decide +kernel) (by decide +kernel) (fun _ _ _ h => h) (Or.inr ⟨by rfl, rfl⟩) ?_; try simp only [Act.put, List.setIfInBounds_toArray, List.set_cons_zero, List.set_cons_succ]) | skip); (first | (refine takeT 16 (v := ?_) rfl (by decide +kernel) (by decide +kernel) (by decide +kernel) (fun _ _ _ h => h) (by decide +kernel) (Or.inl ⟨by rfl, ?_⟩) ?_; rotate_left 1; (focus (intro W hW; have hcW := hW.at; (try dsimp only at hcW); go_simp; first | done | with_reducible rfl)); try simp only [Act.put, List.setIfInBounds_toArray, List.set_cons_zero, List.set_cons_succ]) | (refine takeW 16 (v := ?_) rfl (by decide +kernel) (by decide +kernel) (by decide +kernel) (fun _ _ _ h => h) (Or.inl ⟨by rfl, ?_⟩) ?_; rotate_left 1; (focus (intro W hW; go_simp; first | done | with_reducible rfl)); try simp only [Act.put, List.setIfInBounds_toArray, List.set_cons_zero, List.set_cons_succ]) | (refine takeW 16 rfl (by decide +kernel) (by decide +kernel) (by decide +kernel) (fun _ _ _ h => h) (Or.inr ⟨by rfl, rfl⟩) ?_; try simp only [Act.put, List.setIfInBounds_toArray, List.set_cons_zero, List.set_cons_succ]) | skip))
  refine doneT (by kernel_rfl) ?_
  have V4cx := HX4.out.next hB5
  clear HX4 hna4 h10 hB5 hr9 hsl hdsm
  have HX4 := V4cx
  clear V4cx
  go_wp2_with fail
  replace HX4 := Lib.hid HX4
  obtain ⟨zs, hzs⟩ : ∃ zs, qs ++ [xs] = zs := ⟨_, rfl⟩
  have hzsm := hqs.out.snoc hq20 (show xs.length ≤ 100000 by omega)
  rw [hzs] at hzsm
  replace hzsm := Lib.hid hzsm
  replace hzs := Lib.hid hzs
  go_loopg [12] 2 (fun g i wr => ∃ k : Nat, k + g = 2 ∧ i = .int .i64 k ∧ RowKit.Hid (Cx v2.heap.size g3 g4 st true A A' A2 A5 A6 c c' c2 c5 c6 ps qs xs v2 wr))
  case atStart => exact ⟨0, by omega, rfl, HX4⟩
  case round =>
    obtain ⟨k, hkg, rfl, hcx⟩ := hrel
    by_cases hk : k < 2
    · have e40 := block_at hcx.out.b4 (i := 0) (v := .bool true) rfl
      have e41 := block_at hcx.out.b4 (i := 1) (v := .slice A' qs.length c') rfl
      have hl4 : g4 < wr.heap.size := Nat.lt_of_lt_of_le hcx.out.l4 hcx.out.le
      have KHn := Lib.hid (hear_no wr true A' c' qs (hcx.out.g.more hcx.out.le) hqs.out (.slice A2 xs.length c2))
      have KHy := (hear_yes wr true A' c' qs (hcx.out.g.more hcx.out.le) hqs.out A2 c2 xs (hcx.out.x.more hcx.out.le) hq20 (by omega))
      rw [hzs.out] at KHy
      replace KHy := Lib.hid KHy
      rcases (show k = 0 ∨ k = 1 by omega) with rfl | rfl
      · go_wp2_with fail
        refine KHn.out.mono ?_
        rintro e w1 ⟨g, rfl, hnw, hB1⟩
        have hcx1 := hcx.out.next hB1
        have h13 := heap_alloc_new w1 (.cells #[.bool true, .slice (some ⟨g, 0, none⟩) qs.length qs.length] 39)
        have hal := (Below.refl w1.heap.size w1).alloc (Nat.le_refl _) (.cells #[.bool true, .slice (some ⟨g, 0, none⟩) qs.length qs.length] 39)
        have hcx5 := hcx1.next hal
        have hnw5 := hnw.below hal
        clear hal hnw hcx1
        replace hcx5 := Lib.hid hcx5
        replace hnw5 := Lib.hid hnw5
        replace h13 := Lib.hid h13
        have hs1 : wr.heap.size ≤ w1.heap.size := hB1.size
        clear hB1 e40 e41
        go_wp2_with fail
        generalize w1.alloc (.cells #[.bool true, .slice (some ⟨g, 0, none⟩) qs.length qs.length] 39) = V5 at h13 hcx5 hnw5 ⊢
        generalize w1.heap.size = g13 at h13 hs1 ⊢
        have e40 := block_at hcx5.out.b4 (i := 0) (v := .bool true) rfl
        have hl4' : g4 < V5.heap.size := Nat.lt_of_lt_of_le hcx5.out.l4 hcx5.out.le
        have KC := Lib.hid (fun W hW => clone_any W A6 c6 qs hW hqs.out)
        refine startT (S := fun a => a.block < V5.heap.size) (T := []) 9 (by kernel_rfl) rfl (l := #[false, false, false, false, false, false, false, false, false]) rfl ?_
        ((first | (refine takeT 0 (v := ?_) rfl (by decide +kernel) (by decide +kernel) (by decide +kernel) (fun _ _ _ h => h) (by decide +kernel) (Or.inl ⟨by rfl, ?_⟩) ?_; rotate_left 1; (focus (intro W hW; have hcW := hW.at; (try dsimp only at hcW); go_simp; first | done | with_reducible rfl)); try simp only [Act.put, List.setIfInBounds_toArray, List.set_cons_zero, List.set_cons_succ]) | (refine takeW 0 (v := ?_) rfl (by decide +kernel) (by decide +kernel) (by decide +kernel) (fun _ _ _ h => h) (Or.inl ⟨by rfl, ?_⟩) ?_; rotate_left 1; (focus (intro W hW; go_simp; first | done | with_reducible rfl)); try simp only [Act.put, List.setIfInBounds_toArray, List.set_cons_zero, List.set_cons_succ]) | (refine takeW 0 rfl (by decide +kernel) (by decide +kernel) (by decide +kernel) (fun _ _ _ h => h) (Or.inr ⟨by rfl, rfl⟩) ?_; try simp only [Act.put, List.setIfInBounds_toArray, List.set_cons_zero, List.set_cons_succ]) | skip))
        ((first | (refine takeT 2 (v := ?_) rfl (by decide +kernel) (by decide +kernel) (by decide +kernel) (fun _ _ _ h => h) (by decide +kernel) (Or.inl ⟨by rfl, ?_⟩) ?_; rotate_left 1; (focus (intro W hW; have hcW := hW.at; (try dsimp only at hcW); go_simp; first | done | with_reducible rfl)); try simp only [Act.put, List.setIfInBounds_toArray, List.set_cons_zero, List.set_cons_succ]) | (refine takeW 2 (v := ?_) rfl (by decide +kernel) (by decide +kernel) (by decide +kernel) (fun _ _ _ h => h) (Or.inl ⟨by rfl, ?_⟩) ?_; rotate_left 1; (focus (intro W hW; go_simp; first | done | with_reducible rfl)); try simp only [Act.put, List.setIfInBounds_toArray, List.set_cons_zero, List.set_cons_succ]) | (refine takeW 2 rfl (by decide +kernel) (by decide +kernel) (by decide +kernel) (fun _ _ _ h => h) (Or.inr ⟨by rfl, rfl⟩) ?_; try simp only [Act.put, List.setIfInBounds_toArray, List.set_cons_zero, List.set_cons_succ]) | skip); (first | (refine takeT 3 (v := ?_) rfl (by decide +kernel) (by decide +kernel) (by decide +kernel) (fun _ _ _ h => h) (by decide +kernel) (Or.inl ⟨by rfl, ?_⟩) ?_; rotate_left 1; (focus (intro W hW; have hcW := hW.at; (try dsimp only at hcW); go_simp; first | done | with_reducible rfl)); try simp only [Act.put, List.setIfInBounds_toArray, List.set_cons_zero, List.set_cons_succ]) | (refine takeW 3 (v := ?_) rfl (by decide +kernel) (by decide +kernel) (by decide +kernel) (fun _ _ _ h => h) (Or.inl ⟨by rfl, ?_⟩) ?_; rotate_left 1; (focus (intro W hW; go_simp; first | done | with_reducible rfl)); try simp only [Act.put, List.setIfInBounds_toArray, List.set_cons_zero, List.set_cons_succ]) | (refine takeW 3 rfl (by decide +kernel) (by decide +kernel) (by decide +kernel) (fun _ _ _ h => h) (Or.inr ⟨by rfl, rfl⟩) ?_; try simp only [Act.put, List.setIfInBounds_toArray, List.set_cons_zero, List.set_cons_succ]) | skip); (first | (refine takeT 4 (v := ?_) rfl (by decide +kernel) (by decide +kernel) (by decide +kernel) (fun _ _ _ h => h) (by decide +kernel) (Or.inl ⟨by rfl, ?_⟩) ?_; rotate_left 1; (focus (intro W hW; have hcW := hW.at; (try dsimp only at hcW); go_simp; first | done | with_reducible rfl)); try simp only [Act.put, List.setIfInBounds_toArray, List.set_cons_zero, List.set_cons_succ]) | (refine takeW 4 (v := ?_) rfl (by decide +kernel) (by decide +kernel) (by decide +kernel) (fun _ _ _ h => h) (Or.inl ⟨by rfl, ?_⟩) ?_; rotate_left 1; (focus (intro W hW; go_simp; first | done | with_reducible rfl)); try simp only [Act.put, List.setIfInBounds_toArray, List.set_cons_zero, List.set_cons_succ]) | (refine takeW 4 rfl (by decide +kernel) (by decide +kernel) (by decide +kernel) (fun _ _ _ h => h) (Or.inr ⟨by rfl, rfl⟩) ?_; try simp only [Act.put, List.setIfInBounds_toArray, List.set_cons_zero, List.set_cons_succ]) | skip); (first | (refine takeT 5 (v := ?_) rfl (by decide +kernel) (by decide +kernel) (by decide +kernel) (fun _ _ _ h => h) (by decide +kernel) (Or.inl ⟨by rfl, ?_⟩) ?_; rotate_left 1; (focus (intro W hW; have hcW := hW.at; (try dsimp only at hcW); go_simp; first | done | with_reducible rfl)); try simp only [Act.put, List.setIfInBounds_toArray, List.set_cons_zero, List.set_cons_succ]) | (refine takeW 5 (v := ?_) rfl (by decide +kernel) (by decide +kernel) (by decide +kernel) (fun _ _ _ h => h) (Or.inl ⟨by rfl, ?_⟩) ?_; rotate_left 1; (focus (intro W hW; go_simp; first | done | with_reducible rfl)); try simp only [Act.put, List.setIfInBounds_toArray, List.set_cons_zero, List.set_cons_succ]) | (refine takeW 5 rfl (by decide +kernel) (by decide +kernel) (by decide +kernel) (fun _ _ _ h => h) (Or.inr ⟨by rfl, rfl⟩) ?_; try simp only [Act.put, List.setIfInBounds_toArray, List.set_cons_zero, List.set_cons_succ]) | skip); (first | (refine takeT 6 (v := ?_) rfl (by decide +kernel) (by decide +kernel) (by decide +kernel) (fun _ _ _ h => h) (by decide +kernel) (Or.inl ⟨by rfl, ?_⟩) ?_; rotate_left 1; (focus (intro W hW; have hcW := hW.at; (try dsimp only at hcW); go_simp; first | done | with_reducible rfl)); try simp only [Act.put, List.setIfInBounds_toArray, List.set_cons_zero, List.set_cons_succ]) | (refine takeW 6 (v := ?_) rfl (by decide +kernel) (by decide +kernel) (by decide +kernel) (fun _ _ _ h => h) (Or.inl ⟨by rfl, ?_⟩) ?_; rotate_left 1; (focus (intro W hW; go_simp; first | done | with_reducible rfl)); try simp only [Act.put, List.setIfInBounds_toArray, List.set_cons_zero, List.set_cons_succ]) | (refine takeW 6 rfl (by decide +kernel) (by decide +kernel) (by decide +kernel) (fun _ _ _ h => h) (Or.inr ⟨by rfl, rfl⟩) ?_; try simp only [Act.put, List.setIfInBounds_toArray, List.set_cons_zero, List.set_cons_succ]) | skip))
        refine stepT 1 rfl (by decide +kernel) (by rfl) (fun K hK => ?_)
        go_simp
        refine (KC.out V5.drew ((hcx5.out.k.more hcx5.out.le).drew)).mono ?_
        rintro e w6 ⟨x6, rfl, p6, hB6⟩
        obtain ⟨A7, c7, rfl⟩ := p6.shape
        replace hB6 : Below V5.heap.size V5 w6 := below_undrew hB6
        refine hK _ _ (.inr fun a ha => hB6.cell ha) ?_
        clear hK K
        try simp only [List.setIfInBounds_toArray, List.set_cons_zero, List.set_cons_succ]
        ((first | (refine takeT 7 (v := ?_) rfl (by decide +kernel) (by decide +kernel) (by decide +kernel) (fun _ _ _ h => h) (by decide +kernel) (Or.inl ⟨by rfl, ?_⟩) ?_; rotate_left 1; (focus (intro W hW; have hcW := hW.at; (try dsimp only at hcW); go_simp; first | done | with_reducible rfl)); try simp only [Act.put, List.setIfInBounds_toArray, List.set_cons_zero, List.set_cons_succ]) | (refine takeW 7 (v := ?_) rfl (by decide +kernel) (by decide +kernel) (by decide +kernel) (fun _ _ _ h => h) (Or.inl ⟨by rfl, ?_⟩) ?_; rotate_left 1; (focus (intro W hW; go_simp; first | done | with_reducible rfl)); try simp only [Act.put, List.setIfInBounds_toArray, List.set_cons_zero, List.set_cons_succ]) | (refine takeW 7 rfl (by decide +kernel) (by decide +kernel) (by decide +kernel) (fun _ _ _ h => h) (Or.inr ⟨by rfl, rfl⟩) ?_; try simp only [Act.put, List.setIfInBounds_toArray, List.set_cons_zero, List.set_cons_succ]) | skip); (first | (refine takeT 8 (v := ?_) rfl (by decide +kernel) (by decide +kernel) (by decide +kernel) (fun _ _ _ h => h) (by decide +kernel) (Or.inl ⟨by rfl, ?_⟩) ?_; rotate_left 1; (focus (intro W hW; have hcW := hW.at; (try dsimp only at hcW); go_simp; first | done | with_reducible rfl)); try simp only [Act.put, List.setIfInBounds_toArray, List.set_cons_zero, List.set_cons_succ]) | (refine takeW 8 (v := ?_) rfl (by decide +kernel) (by decide +kernel) (by decide +kernel) (fun _ _ _ h => h) (Or.inl ⟨by rfl, ?_⟩) ?_; rotate_left 1; (focus (intro W hW; go_simp; first | done | with_reducible rfl)); try simp only [Act.put, List.setIfInBounds_toArray, List.set_cons_zero, List.set_cons_succ]) | (refine takeW 8 rfl (by decide +kernel) (by decide +kernel) (by decide +kernel) (fun _ _ _ h => h) (Or.inr ⟨by rfl, rfl⟩) ?_; try simp only [Act.put, List.setIfInBounds_toArray, List.set_cons_zero, List.set_cons_succ]) | skip))
        refine doneT (by kernel_rfl) ?_
        have hcx6 := Lib.hid (hcx5.out.next hB6)
        have hnw6 := Lib.hid (hnw5.out.below hB6)
        have h136 := (hB6.block g13 (block_lt h13.out)).trans h13.out
        have e130 := block_at h136 (i := 0) (v := .bool true) rfl
        have e131 := block_at h136 (i := 1) (v := .slice (some ⟨g, 0, none⟩) qs.length qs.length) rfl
        have hgl := block_lt h136
        clear hcx5 hnw5 h13 hl4' hl4 e40 KC
        have hsm := Lib.hid hqs.out
        have hQl : qs.length ≤ 100000 := hsm.out.1
        have KL := Lib.hid (fun A9 c9 h9 => lists_any w6 (some ⟨g, 0, none⟩) A9 qs.length c9 qs (hnw6.out.rds hsm.out) h9 (by have := hsm.out.1; omega))
        replace h136 := Lib.hid h136
        go_wp2_with fail
        refine (KL.out A7 c7 (pk_rds p6)).mono ?_
        rintro e w7 ⟨rfl, hB7⟩
        have hcx7 := Lib.hid (hcx6.out.next hB7)
        have hnw7 := hnw6.out.below hB7
        have h137 := (hB7.block g13 (block_lt h136.out)).trans h136.out
        clear e130 e131
        have e130 := block_at h137 (i := 0) (v := .bool true) rfl
        have e40 := block_at hcx7.out.b4 (i := 0) (v := .bool true) rfl
        replace h137 := Lib.hid h137
        obtain ⟨vs, hvl, hmo, hat⟩ := Mod.ofNews hnw7 hsm.out
        have hwB : v2.heap.size ≤ wr.heap.size := hcx.out.le
        clear hB6 hB7 p6 KL hnw6 hnw7 hcx6 h136
        replace hmo := Lib.hid hmo
        replace hat := Lib.hid hat
        go_wp2_with fail
        clear e130 e40
        generalize wr.heap.size = base at hmo hwB hs1
        clear hcx
        go_loopg [17] qs.length (fun g' i wq => ∃ k2 : Nat, k2 + g' = qs.length ∧ i = .int .i64 k2 ∧ RowKit.Hid (Mod base wq (some ⟨g, 0, none⟩) vs) ∧ RowKit.Hid (Cx v2.heap.size g3 g4 st true A A' A2 A5 A6 c c' c2 c5 c6 ps qs xs v2 wq) ∧ RowKit.Hid (wq.heap[g13]? = some (.cells #[.bool true, .slice (some ⟨g, 0, none⟩) qs.length qs.length] 39 (0, 0))))
        case atStart => exact ⟨0, by omega, rfl, hmo, hcx7, h137⟩
        case round =>
          obtain ⟨k2, hkg2, rfl, hmo2, hcx8, h138⟩ := hrel
          have e131 := block_at h138.out (i := 1) (v := .slice (some ⟨g, 0, none⟩) qs.length qs.length) rfl
          by_cases hk2 : k2 < qs.length
          · have hki2 : (k2 : Int) < (qs.length : Int) := by omega
            have hkv : k2 < vs.length := by omega
            obtain ⟨Ai, len, he1, he2, _⟩ := hmo2.out.each k2 hkv
            replace he1 := Lib.hid he1
            go_wp2_with fail
            clear e131
            go_loopg [18] len (fun g' j wq => ∃ q : Nat, q + g' = len ∧ j = .int .i64 q ∧ RowKit.Hid (Mod base wq (some ⟨g, 0, none⟩) vs) ∧ RowKit.Hid (Cx v2.heap.size g3 g4 st true A A' A2 A5 A6 c c' c2 c5 c6 ps qs xs v2 wq) ∧ RowKit.Hid (wq.heap[g13]? = some (.cells #[.bool true, .slice (some ⟨g, 0, none⟩) qs.length qs.length] 39 (0, 0))))
            case atStart => exact ⟨0, by omega, rfl, hmo2, hcx8, h138⟩
            case round =>
              obtain ⟨q, hqg, rfl, hmo3, hcx9, h139⟩ := hrel
              have e131 := block_at h139.out (i := 1) (v := .slice (some ⟨g, 0, none⟩) qs.length qs.length) rfl
              obtain ⟨Ai2, len2, hf1, _, hf3⟩ := hmo3.out.each k2 hkv
              rw [he1.out] at hf1
              injection hf1 with hf1
              injection hf1 with hf1 hf2 _
              subst hf1 hf2
              obtain ⟨g2, hA2, _, hc⟩ := hmo3.out.cell hkv
              injection hA2 with hA2
              injection hA2 with hA2 _ _
              subst hA2
              rw [he1.out] at hc
              by_cases hq : q < len
              · obtain ⟨b, off, cs, rfl, hbn, hh, hz⟩ := hf3 (by omega)
                obtain ⟨z, hz⟩ := hz q hq
                have hfr := block_free hh (off + q)
                have hqi : (q : Int) < (len : Int) := by omega
                have hst : ∀ v : Value, Below v2.heap.size wr (wr.setCell ⟨b, off + q, none⟩ v) := fun v => (Below.refl v2.heap.size wr).setCell (by show v2.heap.size ≤ b; omega) v
                have h13s : ∀ v : Value, (wr.setCell ⟨b, off + q, none⟩ v).heap[g13]? = wr.heap[g13]? := fun v => Below.heap_setCell _ _ _ _ (block_ne h139.out hh (by decide))
                replace hh := Lib.hid hh
                replace hst := Lib.hid hst
                replace h13s := Lib.hid h13s
                go_wp2_with fail
                go_roundg (gk - 1)
                case measure => omega
                case rel => exact ⟨q + 1, by omega, by go_num, Lib.hid (hmo3.out.set hh.out _), Lib.hid (hcx9.out.step (hst.out _)), Lib.hid ((h13s.out _).trans h139.out)⟩
              · obtain rfl : q = len := by omega
                clear hf3
                go_wp2_with fail
                go_roundg (qs.length - (k2 + 1))
                case measure => omega
                case rel => exact ⟨k2 + 1, by omega, by go_num, hmo3, hcx9, h139⟩
          · obtain rfl : k2 = qs.length := by omega
            go_wp2_with fail
            go_roundg (2 - (0 + 1))
            case measure => omega
            case rel => exact ⟨0 + 1, by omega, by go_num, hcx8⟩
      · go_wp2_with fail
        refine KHy.out.mono ?_
        rintro e w1 ⟨g, rfl, hnw, hB1⟩
        have hcx1 := hcx.out.next hB1
        have h13 := heap_alloc_new w1 (.cells #[.bool false, .slice (some ⟨g, 0, none⟩) zs.length zs.length] 39)
        have hal := (Below.refl w1.heap.size w1).alloc (Nat.le_refl _) (.cells #[.bool false, .slice (some ⟨g, 0, none⟩) zs.length zs.length] 39)
        have hcx5 := hcx1.next hal
        have hnw5 := hnw.below hal
        clear hal hnw hcx1
        replace hcx5 := Lib.hid hcx5
        replace hnw5 := Lib.hid hnw5
        replace h13 := Lib.hid h13
        have hs1 : wr.heap.size ≤ w1.heap.size := hB1.size
        clear hB1 e40 e41
        go_wp2_with fail
        generalize w1.alloc (.cells #[.bool false, .slice (some ⟨g, 0, none⟩) zs.length zs.length] 39) = V5 at h13 hcx5 hnw5 ⊢
        generalize w1.heap.size = g13 at h13 hs1 ⊢
        have e40 := block_at hcx5.out.b4 (i := 0) (v := .bool true) rfl
        have hl4' : g4 < V5.heap.size := Nat.lt_of_lt_of_le hcx5.out.l4 hcx5.out.le
        have KC := Lib.hid (fun W hW => clone_any W A6 c6 qs hW hqs.out)
        refine startT (S := fun a => a.block < V5.heap.size) (T := []) 9 (by kernel_rfl) rfl (l := #[false, false, false, false, false, false, false, false, false]) rfl ?_
        ((first | (refine takeT 0 (v := ?_) rfl (by decide +kernel) (by decide +kernel) (by decide +kernel) (fun _ _ _ h => h) (by decide +kernel) (Or.inl ⟨by rfl, ?_⟩) ?_; rotate_left 1; (focus (intro W hW; have hcW := hW.at; (try dsimp only at hcW); go_simp; first | done | with_reducible rfl)); try simp only [Act.put, List.setIfInBounds_toArray, List.set_cons_zero, List.set_cons_succ]) | (refine takeW 0 (v := ?_) rfl (by decide +kernel) (by decide +kernel) (by decide +kernel) (fun _ _ _ h => h) (Or.inl ⟨by rfl, ?_⟩) ?_; rotate_left 1; (focus (intro W hW; go_simp; first | done | with_reducible rfl)); try simp only [Act.put, List.setIfInBounds_toArray, List.set_cons_zero, List.set_cons_succ]) | (refine takeW 0 rfl (by decide +kernel) (by decide +kernel) (by decide +kernel) (fun _ _ _ h => h) (Or.inr ⟨by rfl, rfl⟩) ?_; try simp only [Act.put, List.setIfInBounds_toArray, List.set_cons_zero, List.set_cons_succ]) | skip))
        ((first | (refine takeT 2 (v := ?_) rfl (by decide +kernel) (by decide +kernel) (by decide +kernel) (fun _ _ _ h => h) (by decide +kernel) (Or.inl ⟨by rfl, ?_⟩) ?_; rotate_left 1; (focus (intro W hW; have hcW := hW.at; (try dsimp only at hcW); go_simp; first | done | with_reducible rfl)); try simp only [Act.put, List.setIfInBounds_toArray, List.set_cons_zero, List.set_cons_succ]) | (refine takeW 2 (v := ?_) rfl (by decide +kernel) (by decide +kernel) (by decide +kernel) (fun _ _ _ h => h) (Or.inl ⟨by rfl, ?_⟩) ?_; rotate_left 1; (focus (intro W hW; go_simp; first | done | with_reducible rfl)); try simp only [Act.put, List.setIfInBounds_toArray, List.set_cons_zero, List.set_cons_succ]) | (refine takeW 2 rfl (by decide +kernel) (by decide +kernel) (by decide +kernel) (fun _ _ _ h => h) (Or.inr ⟨by rfl, rfl⟩) ?_; try simp only [Act.put, List.setIfInBounds_toArray, List.set_cons_zero, List.set_cons_succ]) | skip); (first | (refine takeT 3 (v := ?_) rfl (by decide +kernel) (by decide +kernel) (by decide +kernel) (fun _ _ _ h => h) (by decide +kernel) (Or.inl ⟨by rfl, ?_⟩) ?_; rotate_left 1; (focus (intro W hW; have hcW := hW.at; (try dsimp only at hcW); go_simp; first | done | with_reducible rfl)); try simp only [Act.put, List.setIfInBounds_toArray, List.set_cons_zero, List.set_cons_succ]) | (refine takeW 3 (v := ?_) rfl (by decide +kernel) (by decide +kernel) (by decide +kernel) (fun _ _ _ h => h) (Or.inl ⟨by rfl, ?_⟩) ?_; rotate_left 1; (focus (intro W hW; go_simp; first | done | with_reducible rfl)); try simp only [Act.put, List.setIfInBounds_toArray, List.set_cons_zero, List.set_cons_succ]) | (refine takeW 3 rfl (by decide +kernel) (by decide +kernel) (by decide +kernel) (fun _ _ _ h => h) (Or.inr ⟨by rfl, rfl⟩) ?_; try simp only [Act.put, List.setIfInBounds_toArray, List.set_cons_zero, List.set_cons_succ]) | skip); (first | (refine takeT 4 (v := ?_) rfl (by decide +kernel) (by decide +kernel) (by decide +kernel) (fun _ _ _ h => h) (by decide +kernel) (Or.inl ⟨by rfl, ?_⟩) ?_; rotate_left 1; (focus (intro W hW; have hcW := hW.at; (try dsimp only at hcW); go_simp; first | done | with_reducible rfl)); try simp only [Act.put, List.setIfInBounds_toArray, List.set_cons_zero, List.set_cons_succ]) | (refine takeW 4 (v := ?_) rfl (by decide +kernel) (by decide +kernel) (by decide +kernel) (fun _ _ _ h => h) (Or.inl ⟨by rfl, ?_⟩) ?_; rotate_left 1; (focus (intro W hW; go_simp; first | done | with_reducible rfl)); try simp only [Act.put, List.setIfInBounds_toArray, List.set_cons_zero, List.set_cons_succ]) | (refine takeW 4 rfl (by decide +kernel) (by decide +kernel) (by decide +kernel) (fun _ _ _ h => h) (Or.inr ⟨by rfl, rfl⟩) ?_; try simp only [Act.put, List.setIfInBounds_toArray, List.set_cons_zero, List.set_cons_succ]) | skip); (first | (refine takeT 5 (v := ?_) rfl (by decide +kernel) (by decide +kernel) (by decide +kernel) (fun _ _ _ h => h) (by decide +kernel) (Or.inl ⟨by rfl, ?_⟩) ?_; rotate_left 1; (focus (intro W hW; have hcW := hW.at; (try dsimp only at hcW); go_simp; first | done | with_reducible rfl)); try simp only [Act.put, List.setIfInBounds_toArray, List.set_cons_zero, List.set_cons_succ]) | (refine takeW 5 (v := ?_) rfl (by decide +kernel) (by decide +kernel) (by decide +kernel) (fun _ _ _ h => h) (Or.inl ⟨by rfl, ?_⟩) ?_; rotate_left 1; (focus (intro W hW; go_simp; first | done | with_reducible rfl)); try simp only [Act.put, List.setIfInBounds_toArray, List.set_cons_zero, List.set_cons_succ]) | (refine takeW 5 rfl (by decide +kernel) (by decide +kernel) (by decide +kernel) (fun _ _ _ h => h) (Or.inr ⟨by rfl, rfl⟩) ?_; try simp only [Act.put, List.setIfInBounds_toArray, List.set_cons_zero, List.set_cons_succ]) | skip); (first | (refine takeT 6 (v := ?_) rfl (by decide +kernel) (by decide +kernel) (by decide +kernel) (fun _ _ _ h => h) (by decide +kernel) (Or.inl ⟨by rfl, ?_⟩) ?_; rotate_left 1; (focus (intro W hW; have hcW := hW.at; (try dsimp only at hcW); go_simp; first | done | with_reducible rfl)); try simp only [Act.put, List.setIfInBounds_toArray, List.set_cons_zero, List.set_cons_succ]) | (refine takeW 6 (v := ?_) rfl (by decide +kernel) (by decide +kernel) (by decide +kernel) (fun _ _ _ h => h) (Or.inl ⟨by rfl, ?_⟩) ?_; rotate_left 1; (focus (intro W hW; go_simp; first | done | with_reducible rfl)); try simp only [Act.put, List.setIfInBounds_toArray, List.set_cons_zero, List.set_cons_succ]) | (refine takeW 6 rfl (by decide +kernel) (by decide +kernel) (by decide +kernel) (fun _ _ _ h => h) (Or.inr ⟨by rfl, rfl⟩) ?_; try simp only [Act.put, List.setIfInBounds_toArray, List.set_cons_zero, List.set_cons_succ]) | skip))
        refine stepT 1 rfl (by decide +kernel) (by rfl) (fun K hK => ?_)
        go_simp
        refine (KC.out V5.drew ((hcx5.out.k.more hcx5.out.le).drew)).mono ?_
        rintro e w6 ⟨x6, rfl, p6, hB6⟩
        obtain ⟨A7, c7, rfl⟩ := p6.shape
        replace hB6 : Below V5.heap.size V5 w6 := below_undrew hB6
        refine hK _ _ (.inr fun a ha => hB6.cell ha) ?_
        clear hK K
        try simp only [List.setIfInBounds_toArray, List.set_cons_zero, List.set_cons_succ]
        ((first | (refine takeT 7 (v := ?_) rfl (by decide +kernel) (by decide +kernel) (by decide +kernel) (fun _ _ _ h => h) (by decide +kernel) (Or.inl ⟨by rfl, ?_⟩) ?_; rotate_left 1; (focus (intro W hW; have hcW := hW.at; (try dsimp only at hcW); go_simp; first | done | with_reducible rfl)); try simp only [Act.put, List.setIfInBounds_toArray, List.set_cons_zero, List.set_cons_succ]) | (refine takeW 7 (v := ?_) rfl (by decide +kernel) (by decide +kernel) (by decide +kernel) (fun _ _ _ h => h) (Or.inl ⟨by rfl, ?_⟩) ?_; rotate_left 1; (focus (intro W hW; go_simp; first | done | with_reducible rfl)); try simp only [Act.put, List.setIfInBounds_toArray, List.set_cons_zero, List.set_cons_succ]) | (refine takeW 7 rfl (by decide +kernel) (by decide +kernel) (by decide +kernel) (fun _ _ _ h => h) (Or.inr ⟨by rfl, rfl⟩) ?_; try simp only [Act.put, List.setIfInBounds_toArray, List.set_cons_zero, List.set_cons_succ]) | skip); (first | (refine takeT 8 (v := ?_) rfl (by decide +kernel) (by decide +kernel) (by decide +kernel) (fun _ _ _ h => h) (by decide +kernel) (Or.inl ⟨by rfl, ?_⟩) ?_; rotate_left 1; (focus (intro W hW; have hcW := hW.at; (try dsimp only at hcW); go_simp; first | done | with_reducible rfl)); try simp only [Act.put, List.setIfInBounds_toArray, List.set_cons_zero, List.set_cons_succ]) | (refine takeW 8 (v := ?_) rfl (by decide +kernel) (by decide +kernel) (by decide +kernel) (fun _ _ _ h => h) (Or.inl ⟨by rfl, ?_⟩) ?_; rotate_left 1; (focus (intro W hW; go_simp; first | done | with_reducible rfl)); try simp only [Act.put, List.setIfInBounds_toArray, List.set_cons_zero, List.set_cons_succ]) | (refine takeW 8 rfl (by decide +kernel) (by decide +kernel) (by decide +kernel) (fun _ _ _ h => h) (Or.inr ⟨by rfl, rfl⟩) ?_; try simp only [Act.put, List.setIfInBounds_toArray, List.set_cons_zero, List.set_cons_succ]) | skip))
        refine doneT (by kernel_rfl) ?_
        obtain ⟨cpx, w8, hcv, hr8, hB8⟩ := conv_bytes w6 xs (by omega)
        have hne8 : 0 < xs.length → ∀ ad, (some ⟨w6.heap.size, 0, none⟩ : Option Addr) = some ad → some ad.block ≠ (Value.slice A7 qs.length c7).ownBlock := fun _ ad e e2 => by
          obtain rfl := Option.some.inj e
          exact absurd (p6.lt _ e2.symm).2 (Nat.lt_irrefl _)
        have p8 := Lib.hid (p6.below hB8)
        have hB68 := hB6.trans (hB8.mono hB6.size)
        replace hne8 := Lib.hid hne8
        go_wp2_with (at_builtin; refine wpl_appendPk Try.underlying22 Try.info26 rfl (.tmp 106) (.tmp 109) rfl V5.heap.size _ qs rfl p8.out _ cpx xs hr8 hne8.out rfl (by omega) hB68.size ?_; intro v9 w9 p9 hB9; refine Hid.out ?_)
        have hBt := hB68.trans hB9
        rw [hzs.out] at p9
        obtain ⟨A10, c10, rfl⟩ := p9.shape
        clear hB6 hB8 hB68 hB9 p6 p8 hne8 hcv hr8
        have hB6 := hBt
        clear hBt
        have hcx6 := Lib.hid (hcx5.out.next hB6)
        have hnw6 := Lib.hid (hnw5.out.below hB6)
        have h136 := (hB6.block g13 (block_lt h13.out)).trans h13.out
        have e130 := block_at h136 (i := 0) (v := .bool false) rfl
        have e131 := block_at h136 (i := 1) (v := .slice (some ⟨g, 0, none⟩) zs.length zs.length) rfl
        have hgl := block_lt h136
        clear hcx5 hnw5 h13 hl4' hl4 e40 KC
        have hsm := Lib.hid hzsm.out
        have hQl : zs.length ≤ 100000 := hsm.out.1
        have KL := Lib.hid (fun A9 c9 h9 => lists_any w9 (some ⟨g, 0, none⟩) A9 zs.length c9 zs (hnw6.out.rds hsm.out) h9 (by have := hsm.out.1; omega))
        replace h136 := Lib.hid h136
        refine Lib.hid ?_
        go_wp2_with fail
        refine (KL.out A10 c10 (pk_rds p9)).mono ?_
        rintro e w7 ⟨rfl, hB7⟩
        have hcx7 := Lib.hid (hcx6.out.next hB7)
        have hnw7 := hnw6.out.below hB7
        have h137 := (hB7.block g13 (block_lt h136.out)).trans h136.out
        clear e130 e131
        have e130 := block_at h137 (i := 0) (v := .bool false) rfl
        have e40 := block_at hcx7.out.b4 (i := 0) (v := .bool true) rfl
        replace h137 := Lib.hid h137
        obtain ⟨vs, hvl, hmo, hat⟩ := Mod.ofNews hnw7 hsm.out
        have hwB : v2.heap.size ≤ wr.heap.size := hcx.out.le
        clear hB6 hB7 p9 KL hnw6 hnw7 hcx6 h136
        replace hmo := Lib.hid hmo
        replace hat := Lib.hid hat
        go_wp2_with fail
        clear e130 e40
        generalize wr.heap.size = base at hmo hwB hs1
        clear hcx
        go_loopg [17] zs.length (fun g' i wq => ∃ k2 : Nat, k2 + g' = zs.length ∧ i = .int .i64 k2 ∧ RowKit.Hid (Mod base wq (some ⟨g, 0, none⟩) vs) ∧ RowKit.Hid (Cx v2.heap.size g3 g4 st true A A' A2 A5 A6 c c' c2 c5 c6 ps qs xs v2 wq) ∧ RowKit.Hid (wq.heap[g13]? = some (.cells #[.bool false, .slice (some ⟨g, 0, none⟩) zs.length zs.length] 39 (0, 0))))
        case atStart => exact ⟨0, by omega, rfl, hmo, hcx7, h137⟩
        case round =>
          obtain ⟨k2, hkg2, rfl, hmo2, hcx8, h138⟩ := hrel
          have e131 := block_at h138.out (i := 1) (v := .slice (some ⟨g, 0, none⟩) zs.length zs.length) rfl
          by_cases hk2 : k2 < zs.length
          · have hki2 : (k2 : Int) < (zs.length : Int) := by omega
            have hkv : k2 < vs.length := by omega
            obtain ⟨Ai, len, he1, he2, _⟩ := hmo2.out.each k2 hkv
            replace he1 := Lib.hid he1
            go_wp2_with fail
            clear e131
            go_loopg [18] len (fun g' j wq => ∃ q : Nat, q + g' = len ∧ j = .int .i64 q ∧ RowKit.Hid (Mod base wq (some ⟨g, 0, none⟩) vs) ∧ RowKit.Hid (Cx v2.heap.size g3 g4 st true A A' A2 A5 A6 c c' c2 c5 c6 ps qs xs v2 wq) ∧ RowKit.Hid (wq.heap[g13]? = some (.cells #[.bool false, .slice (some ⟨g, 0, none⟩) zs.length zs.length] 39 (0, 0))))
            case atStart => exact ⟨0, by omega, rfl, hmo2, hcx8, h138⟩
            case round =>
              obtain ⟨q, hqg, rfl, hmo3, hcx9, h139⟩ := hrel
              have e131 := block_at h139.out (i := 1) (v := .slice (some ⟨g, 0, none⟩) zs.length zs.length) rfl
              obtain ⟨Ai2, len2, hf1, _, hf3⟩ := hmo3.out.each k2 hkv
              rw [he1.out] at hf1
              injection hf1 with hf1
              injection hf1 with hf1 hf2 _
              subst hf1 hf2
              obtain ⟨g2, hA2, _, hc⟩ := hmo3.out.cell hkv
              injection hA2 with hA2
              injection hA2 with hA2 _ _
              subst hA2
              rw [he1.out] at hc
              by_cases hq : q < len
              · obtain ⟨b, off, cs, rfl, hbn, hh, hz⟩ := hf3 (by omega)
                obtain ⟨z, hz⟩ := hz q hq
                have hfr := block_free hh (off + q)
                have hqi : (q : Int) < (len : Int) := by omega
                have hst : ∀ v : Value, Below v2.heap.size wr (wr.setCell ⟨b, off + q, none⟩ v) := fun v => (Below.refl v2.heap.size wr).setCell (by show v2.heap.size ≤ b; omega) v
                have h13s : ∀ v : Value, (wr.setCell ⟨b, off + q, none⟩ v).heap[g13]? = wr.heap[g13]? := fun v => Below.heap_setCell _ _ _ _ (block_ne h139.out hh (by decide))
                replace hh := Lib.hid hh
                replace hst := Lib.hid hst
                replace h13s := Lib.hid h13s
                go_wp2_with fail
                go_roundg (gk - 1)
                case measure => omega
                case rel => exact ⟨q + 1, by omega, by go_num, Lib.hid (hmo3.out.set hh.out _), Lib.hid (hcx9.out.step (hst.out _)), Lib.hid ((h13s.out _).trans h139.out)⟩
              · obtain rfl : q = len := by omega
                clear hf3
                go_wp2_with fail
                go_roundg (zs.length - (k2 + 1))
                case measure => omega
                case rel => exact ⟨k2 + 1, by omega, by go_num, hmo3, hcx9, h139⟩
          · obtain rfl : k2 = zs.length := by omega
            go_wp2_with fail
            go_roundg (2 - (1 + 1))
            case measure => omega
            case rel => exact ⟨1 + 1, by omega, by go_num, hcx8⟩
    · obtain rfl : k = 2 := by omega
      have e30 := block_at hcx.out.b3 (i := 0) (v := .bool st) rfl
      have e31 := block_at hcx.out.b3 (i := 1) (v := .slice A ps.length c) rfl
      have KO := offer_some wr st A c ps (hcx.out.s.more hcx.out.le) hz.out hps.out
      have hyl := hps.out.2 0
      obtain ⟨bl, ol, A12, c12, hA5, hbl5, hc5, hr5⟩ := hcx.out.l.at_ (k := 0) hz.out
      rw [Nat.add_zero] at hc5
      generalize ps.getD 0 [] = ys at KO hyl hc5 hr5
      replace KO := Lib.hid KO
      replace hr5 := Lib.hid hr5
      go_wp2_with fail
      refine KO.out.mono ?_
      rintro e w1 ⟨qo, rfl, hqo, hrow, hB1⟩
      subst hA5
      have hcx1 := Lib.hid (hcx.out.next hB1)
      have hc5' := (hB1.cell (p := ⟨bl, ol, none⟩) (Nat.lt_of_lt_of_le hbl5 hcx.out.le)).trans hc5
      have hr5' := hr5.out.below (hB1.mono hcx.out.le)
      have hbl1 : bl < w1.heap.size := Nat.lt_of_lt_of_le hbl5 (Nat.le_trans hcx.out.le hB1.size)
      have hro := hrow.rd (by omega)
      have cva := Lib.hid (fun W (hW : Sm (fun a => a.block < w1.heap.size) w1.drew W) => (hro.keep (w' := W) fun p hp => hW p hp).cv)
      have cvb := Lib.hid (fun W (hW : Sm (fun a => a.block < w1.heap.size) w1.drew W) => (hr5'.keep (w' := W) fun p hp => hW p (Nat.lt_of_lt_of_le hp (Nat.le_trans hcx.out.le hB1.size))).cv)
      have hmob := Lib.hid (Mob.ofRow hrow)
      have hqB : v2.heap.size ≤ qo := Nat.le_trans hcx.out.le hqo
      have e30' := block_at hcx1.out.b3 (i := 0) (v := .bool st) rfl
      have hg31 : g3 < w1.heap.size := Nat.lt_of_lt_of_le hcx1.out.l3 hcx1.out.le
      have hpi : (0 : Int) < (ps.length : Int) := by have := hz.out; omega
      clear hB1 e30 e31 KO hc5 hr5 hr5' hro hrow hcx
      go_wp2_with fail
      have hp1 := hz.out
      have hp2 : (0 : Int) < (ps.length : Int) := by omega
      have hp3 : decide ((0 : Int) < (ps.length : Int)) = true := decide_eq_true hp2
      refine startT (S := fun a => a.block < w1.heap.size) (T := []) 26 (by kernel_rfl) rfl (l := #[false, false, false, false, false, false, false, false, false, false, false, false, false, false, false, false, false, false, false, false, false, false, false, false, false, false]) rfl ?_
      ((first | (refine takeT 0 (v := ?_) rfl (by decide +kernel) (by decide +kernel) (by decide +kernel) (fun _ _ _ h => h) (by decide +kernel) (Or.inl ⟨by rfl, ?_⟩) ?_; rotate_left 1; (focus (intro W hW; have hcW := hW.at; (try dsimp only at hcW); go_simp; first | done | with_reducible rfl)); try simp only [Act.put, List.setIfInBounds_toArray, List.set_cons_zero, List.set_cons_succ]) | (refine takeW 0 (v := ?_) rfl (by decide +kernel) (by decide +kernel) (by decide +kernel) (fun _ _ _ h => h) (Or.inl ⟨by rfl, ?_⟩) ?_; rotate_left 1; (focus (intro W hW; go_simp; first | done | with_reducible rfl)); try simp only [Act.put, List.setIfInBounds_toArray, List.set_cons_zero, List.set_cons_succ]) | (refine takeW 0 rfl (by decide +kernel) (by decide +kernel) (by decide +kernel) (fun _ _ _ h => h) (Or.inr ⟨by rfl, rfl⟩) ?_; try simp only [Act.put, List.setIfInBounds_toArray, List.set_cons_zero, List.set_cons_succ]) | skip); (first | (refine takeT 1 (v := ?_) rfl (by decide +kernel) (by decide +kernel) (by decide +kernel) (fun _ _ _ h => h) (by decide +kernel) (Or.inl ⟨by rfl, ?_⟩) ?_; rotate_left 1; (focus (intro W hW; have hcW := hW.at; (try dsimp only at hcW); go_simp; first | done | with_reducible rfl)); try simp only [Act.put, List.setIfInBounds_toArray, List.set_cons_zero, List.set_cons_succ]) | (refine takeW 1 (v := ?_) rfl (by decide +kernel) (by decide +kernel) (by decide +kernel) (fun _ _ _ h => h) (Or.inl ⟨by rfl, ?_⟩) ?_; rotate_left 1; (focus (intro W hW; go_simp; first | done | with_reducible rfl)); try simp only [Act.put, List.setIfInBounds_toArray, List.set_cons_zero, List.set_cons_succ]) | (refine takeW 1 rfl (by decide +kernel) (by decide +kernel) (by decide +kernel) (fun _ _ _ h => h) (Or.inr ⟨by rfl, rfl⟩) ?_; try simp only [Act.put, List.setIfInBounds_toArray, List.set_cons_zero, List.set_cons_succ]) | skip); (first | (refine takeT 2 (v := ?_) rfl (by decide +kernel) (by decide +kernel) (by decide +kernel) (fun _ _ _ h => h) (by decide +kernel) (Or.inl ⟨by rfl, ?_⟩) ?_; rotate_left 1; (focus (intro W hW; have hcW := hW.at; (try dsimp only at hcW); go_simp; first | done | with_reducible rfl)); try simp only [Act.put, List.setIfInBounds_toArray, List.set_cons_zero, List.set_cons_succ]) | (refine takeW 2 (v := ?_) rfl (by decide +kernel) (by decide +kernel) (by decide +kernel) (fun _ _ _ h => h) (Or.inl ⟨by rfl, ?_⟩) ?_; rotate_left 1; (focus (intro W hW; go_simp; first | done | with_reducible rfl)); try simp only [Act.put, List.setIfInBounds_toArray, List.set_cons_zero, List.set_cons_succ]) | (refine takeW 2 rfl (by decide +kernel) (by decide +kernel) (by decide +kernel) (fun _ _ _ h => h) (Or.inr ⟨by rfl, rfl⟩) ?_; try simp only [Act.put, List.setIfInBounds_toArray, List.set_cons_zero, List.set_cons_succ]) | skip); (first | (refine takeT 3 (v := ?_) rfl (by decide +kernel) (by decide +kernel) (by decide +kernel) (fun _ _ _ h => h) (by decide +kernel) (Or.inl ⟨by rfl, ?_⟩) ?_; rotate_left 1; (focus (intro W hW; have hcW := hW.at; (try dsimp only at hcW); go_simp; first | done | with_reducible rfl)); try simp only [Act.put, List.setIfInBounds_toArray, List.set_cons_zero, List.set_cons_succ]) | (refine takeW 3 (v := ?_) rfl (by decide +kernel) (by decide +kernel) (by decide +kernel) (fun _ _ _ h => h) (Or.inl ⟨by rfl, ?_⟩) ?_; rotate_left 1; (focus (intro W hW; go_simp; first | done | with_reducible rfl)); try simp only [Act.put, List.setIfInBounds_toArray, List.set_cons_zero, List.set_cons_succ]) | (refine takeW 3 rfl (by decide +kernel) (by decide +kernel) (by decide +kernel) (fun _ _ _ h => h) (Or.inr ⟨by rfl, rfl⟩) ?_; try simp only [Act.put, List.setIfInBounds_toArray, List.set_cons_zero, List.set_cons_succ]) | skip); (first | (refine takeT 4 (v := ?_) rfl (by decide +kernel) (by decide +kernel) (by decide +kernel) (fun _ _ _ h => h) (by decide +kernel) (Or.inl ⟨by rfl, ?_⟩) ?_; rotate_left 1; (focus (intro W hW; have hcW := hW.at; (try dsimp only at hcW); go_simp; first | done | with_reducible rfl)); try simp only [Act.put, List.setIfInBounds_toArray, List.set_cons_zero, List.set_cons_succ]) | (refine takeW 4 (v := ?_) rfl (by decide +kernel) (by decide +kernel) (by decide +kernel) (fun _ _ _ h => h) (Or.inl ⟨by rfl, ?_⟩) ?_; rotate_left 1; (focus (intro W hW; go_simp; first | done | with_reducible rfl)); try simp only [Act.put, List.setIfInBounds_toArray, List.set_cons_zero, List.set_cons_succ]) | (refine takeW 4 rfl (by decide +kernel) (by decide +kernel) (by decide +kernel) (fun _ _ _ h => h) (Or.inr ⟨by rfl, rfl⟩) ?_; try simp only [Act.put, List.setIfInBounds_toArray, List.set_cons_zero, List.set_cons_succ]) | skip); (first | (refine takeT 5 (v := ?_) rfl (by decide +kernel) (by decide +kernel) (by decide +kernel) (fun _ _ _ h => h) (by decide +kernel) (Or.inl ⟨by rfl, ?_⟩) ?_; rotate_left 1; (focus (intro W hW; have hcW := hW.at; (try dsimp only at hcW); go_simp; first | done | with_reducible rfl)); try simp only [Act.put, List.setIfInBounds_toArray, List.set_cons_zero, List.set_cons_succ]) | (refine takeW 5 (v := ?_) rfl (by decide +kernel) (by decide +kernel) (by decide +kernel) (fun _ _ _ h => h) (Or.inl ⟨by rfl, ?_⟩) ?_; rotate_left 1; (focus (intro W hW; go_simp; first | done | with_reducible rfl)); try simp only [Act.put, List.setIfInBounds_toArray, List.set_cons_zero, List.set_cons_succ]) | (refine takeW 5 rfl (by decide +kernel) (by decide +kernel) (by decide +kernel) (fun _ _ _ h => h) (Or.inr ⟨by rfl, rfl⟩) ?_; try simp only [Act.put, List.setIfInBounds_toArray, List.set_cons_zero, List.set_cons_succ]) | skip); (first | (refine takeT 6 (v := ?_) rfl (by decide +kernel) (by decide +kernel) (by decide +kernel) (fun _ _ _ h => h) (by decide +kernel) (Or.inl ⟨by rfl, ?_⟩) ?_; rotate_left 1; (focus (intro W hW; have hcW := hW.at; (try dsimp only at hcW); go_simp; first | done | with_reducible rfl)); try simp only [Act.put, List.setIfInBounds_toArray, List.set_cons_zero, List.set_cons_succ]) | (refine takeW 6 (v := ?_) rfl (by decide +kernel) (by decide +kernel) (by decide +kernel) (fun _ _ _ h => h) (Or.inl ⟨by rfl, ?_⟩) ?_; rotate_left 1; (focus (intro W hW; go_simp; first | done | with_reducible rfl)); try simp only [Act.put, List.setIfInBounds_toArray, List.set_cons_zero, List.set_cons_succ]) | (refine takeW 6 rfl (by decide +kernel) (by decide +kernel) (by decide +kernel) (fun _ _ _ h => h) (Or.inr ⟨by rfl, rfl⟩) ?_; try simp only [Act.put, List.setIfInBounds_toArray, List.set_cons_zero, List.set_cons_succ]) | skip); (first | (refine takeT 7 (v := ?_) rfl (by decide +kernel) (by decide +kernel) (by decide +kernel) (fun _ _ _ h => h) (by decide +kernel) (Or.inl ⟨by rfl, ?_⟩) ?_; rotate_left 1; (focus (intro W hW; have hcW := hW.at; (try dsimp only at hcW); go_simp; first | done | with_reducible rfl)); try simp only [Act.put, List.setIfInBounds_toArray, List.set_cons_zero, List.set_cons_succ]) | (refine takeW 7 (v := ?_) rfl (by decide +kernel) (by decide +kernel) (by decide +kernel) (fun _ _ _ h => h) (Or.inl ⟨by rfl, ?_⟩) ?_; rotate_left 1; (focus (intro W hW; go_simp; first | done | with_reducible rfl)); try simp only [Act.put, List.setIfInBounds_toArray, List.set_cons_zero, List.set_cons_succ]) | (refine takeW 7 rfl (by decide +kernel) (by decide +kernel) (by decide +kernel) (fun _ _ _ h => h) (Or.inr ⟨by rfl, rfl⟩) ?_; try simp only [Act.put, List.setIfInBounds_toArray, List.set_cons_zero, List.set_cons_succ]) | skip); (first | (refine takeT 8 (v := ?_) rfl (by decide +kernel) (by decide +kernel) (by decide +kernel) (fun _ _ _ h => h) (by decide +kernel) (Or.inl ⟨by rfl, ?_⟩) ?_; rotate_left 1; (focus (intro W hW; have hcW := hW.at; (try dsimp only at hcW); go_simp; first | done | with_reducible rfl)); try simp only [Act.put, List.setIfInBounds_toArray, List.set_cons_zero, List.set_cons_succ]) | (refine takeW 8 (v := ?_) rfl (by decide +kernel) (by decide +kernel) (by decide +kernel) (fun _ _ _ h => h) (Or.inl ⟨by rfl, ?_⟩) ?_; rotate_left 1; (focus (intro W hW; go_simp; first | done | with_reducible rfl)); try simp only [Act.put, List.setIfInBounds_toArray, List.set_cons_zero, List.set_cons_succ]) | (refine takeW 8 rfl (by decide +kernel) (by decide +kernel) (by decide +kernel) (fun _ _ _ h => h) (Or.inr ⟨by rfl, rfl⟩) ?_; try simp only [Act.put, List.setIfInBounds_toArray, List.set_cons_zero, List.set_cons_succ]) | skip); (first | (refine takeT 9 (v := ?_) rfl (by decide +kernel) (by decide +kernel) (by decide +kernel) (fun _ _ _ h => h) (by decide +kernel) (Or.inl ⟨by rfl, ?_⟩) ?_; rotate_left 1; (focus (intro W hW; have hcW := hW.at; (try dsimp only at hcW); go_simp; first | done | with_reducible rfl)); try simp only [Act.put, List.setIfInBounds_toArray, List.set_cons_zero, List.set_cons_succ]) | (refine takeW 9 (v := ?_) rfl (by decide +kernel) (by decide +kernel) (by decide +kernel) (fun _ _ _ h => h) (Or.inl ⟨by rfl, ?_⟩) ?_; rotate_left 1; (focus (intro W hW; go_simp; first | done | with_reducible rfl)); try simp only [Act.put, List.setIfInBounds_toArray, List.set_cons_zero, List.set_cons_succ]) | (refine takeW 9 rfl (by decide +kernel) (by decide +kernel) (by decide +kernel) (fun _ _ _ h => h) (Or.inr ⟨by rfl, rfl⟩) ?_; try simp only [Act.put, List.setIfInBounds_toArray, List.set_cons_zero, List.set_cons_succ]) | skip); (first | (refine takeT 10 (v := ?_) rfl (by decide +kernel) (by decide +kernel) (by decide +kernel) (fun _ _ _ h => h) (by decide +kernel) (Or.inl ⟨by rfl, ?_⟩) ?_; rotate_left 1; (focus (intro W hW; have hcW := hW.at; (try dsimp only at hcW); go_simp; first | done | with_reducible rfl)); try simp only [Act.put, List.setIfInBounds_toArray, List.set_cons_zero, List.set_cons_succ]) | (refine takeW 10 (v := ?_) rfl (by decide +kernel) (by decide +kernel) (by decide +kernel) (fun _ _ _ h => h) (Or.inl ⟨by rfl, ?_⟩) ?_; rotate_left 1; (focus (intro W hW; go_simp; first | done | with_reducible rfl)); try simp only [Act.put, List.setIfInBounds_toArray, List.set_cons_zero, List.set_cons_succ]) | (refine takeW 10 rfl (by decide +kernel) (by decide +kernel) (by decide +kernel) (fun _ _ _ h => h) (Or.inr ⟨by rfl, rfl⟩) ?_; try simp only [Act.put, List.setIfInBounds_toArray, List.set_cons_zero, List.set_cons_succ]) | skip); (first | (refine takeT 11 (v := ?_) rfl (by decide +kernel) (by decide +kernel) (by decide +kernel) (fun _ _ _ h => h) (by decide +kernel) (Or.inl ⟨by rfl, ?_⟩) ?_; rotate_left 1; (focus (intro W hW; have hcW := hW.at; (try dsimp only at hcW); go_simp; first | done | with_reducible rfl)); try simp only [Act.put, List.setIfInBounds_toArray, List.set_cons_zero, List.set_cons_succ]) | (refine takeW 11 (v := ?_) rfl (by decide +kernel) (by decide +kernel) (by decide +kernel) (fun _ _ _ h => h) (Or.inl ⟨by rfl, ?_⟩) ?_; rotate_left 1; (focus (intro W hW; go_simp; first | done | with_reducible rfl)); try simp only [Act.put, List.setIfInBounds_toArray, List.set_cons_zero, List.set_cons_succ]) | (refine takeW 11 rfl (by decide +kernel) (by decide +kernel) (by decide +kernel) (fun _ _ _ h => h) (Or.inr ⟨by rfl, rfl⟩) ?_; try simp only [Act.put, List.setIfInBounds_toArray, List.set_cons_zero, List.set_cons_succ]) | skip); (first | (refine takeT 12 (v := ?_) rfl (by decide +kernel) (by decide +kernel) (by decide +kernel) (fun _ _ _ h => h) (by decide +kernel) (Or.inl ⟨by rfl, ?_⟩) ?_; rotate_left 1; (focus (intro W hW; have hcW := hW.at; (try dsimp only at hcW); go_simp; first | done | with_reducible rfl)); try simp only [Act.put, List.setIfInBounds_toArray, List.set_cons_zero, List.set_cons_succ]) | (refine takeW 12 (v := ?_) rfl (by decide +kernel) (by decide +kernel) (by decide +kernel) (fun _ _ _ h => h) (Or.inl ⟨by rfl, ?_⟩) ?_; rotate_left 1; (focus (intro W hW; go_simp; first | done | with_reducible rfl)); try simp only [Act.put, List.setIfInBounds_toArray, List.set_cons_zero, List.set_cons_succ]) | (refine takeW 12 rfl (by decide +kernel) (by decide +kernel) (by decide +kernel) (fun _ _ _ h => h) (Or.inr ⟨by rfl, rfl⟩) ?_; try simp only [Act.put, List.setIfInBounds_toArray, List.set_cons_zero, List.set_cons_succ]) | skip); (first | (refine takeT 13 (v := ?_) rfl (by decide +kernel) (by decide +kernel) (by decide +kernel) (fun _ _ _ h => h) (by decide +kernel) (Or.inl ⟨by rfl, ?_⟩) ?_; rotate_left 1; (focus (intro W hW; have hcW := hW.at; (try dsimp only at hcW); go_simp; first | done | with_reducible rfl)); try simp only [Act.put, List.setIfInBounds_toArray, List.set_cons_zero, List.set_cons_succ]) | (refine takeW 13 (v := ?_) rfl (by decide +kernel) (by decide +kernel) (by decide +kernel) (fun _ _ _ h => h) (Or.inl ⟨by rfl, ?_⟩) ?_; rotate_left 1; (focus (intro W hW; go_simp; first | done | with_reducible rfl)); try simp only [Act.put, List.setIfInBounds_toArray, List.set_cons_zero, List.set_cons_succ]) | (refine takeW 13 rfl (by decide +kernel) (by decide +kernel) (by decide +kernel) (fun _ _ _ h => h) (Or.inr ⟨by rfl, rfl⟩) ?_; try simp only [Act.put, List.setIfInBounds_toArray, List.set_cons_zero, List.set_cons_succ]) | skip); (first | (refine takeT 14 (v := ?_) rfl (by decide +kernel) (by decide +kernel) (by decide +kernel) (fun _ _ _ h => h) (by decide +kernel) (Or.inl ⟨by rfl, ?_⟩) ?_; rotate_left 1; (focus (intro W hW; have hcW := hW.at; (try dsimp only at hcW); go_simp; first | done | with_reducible rfl)); try simp only [Act.put, List.setIfInBounds_toArray, List.set_cons_zero, List.set_cons_succ]) | (refine takeW 14 (v := ?_) rfl (by decide +kernel) (by decide +kernel) (by decide +kernel) (fun _ _ _ h => h) (Or.inl ⟨by rfl, ?_⟩) ?_; rotate_left 1; (focus (intro W hW; go_simp; first | done | with_reducible rfl)); try simp only [Act.put, List.setIfInBounds_toArray, List.set_cons_zero, List.set_cons_succ]) | (refine takeW 14 rfl (by decide +kernel) (by decide +kernel) (by decide +kernel) (fun _ _ _ h => h) (Or.inr ⟨by rfl, rfl⟩) ?_; try simp only [Act.put, List.setIfInBounds_toArray, List.set_cons_zero, List.set_cons_succ]) | skip); (first | (refine takeT 15 (v := ?_) rfl (by decide +kernel) (by decide +kernel) (by decide +kernel) (fun _ _ _ h => h) (by decide +kernel) (Or.inl ⟨by rfl, ?_⟩) ?_; rotate_left 1; (focus (intro W hW; have hcW := hW.at; (try dsimp only at hcW); go_simp; first | done | with_reducible rfl)); try simp only [Act.put, List.setIfInBounds_toArray, List.set_cons_zero, List.set_cons_succ]) | (refine takeW 15 (v := ?_) rfl (by decide +kernel) (by decide +kernel) (by decide +kernel) (fun _ _ _ h => h) (Or.inl ⟨by rfl, ?_⟩) ?_; rotate_left 1; (focus (intro W hW; go_simp; first | done | with_reducible rfl)); try simp only [Act.put, List.setIfInBounds_toArray, List.set_cons_zero, List.set_cons_succ]) | (refine takeW 15 rfl (by decide +kernel) (by decide +kernel) (by decide +kernel) (fun _ _ _ h => h) (Or.inr ⟨by rfl, rfl⟩) ?_; try simp only [Act.put, List.setIfInBounds_toArray, List.set_cons_zero, List.set_cons_succ]) | skip); (first | (refine takeT 16 (v := ?_) rfl (by decide +kernel) (by decide +kernel) (by decide +kernel) (fun _ _ _ h => h) (by decide +kernel) (Or.inl ⟨by rfl, ?_⟩) ?_; rotate_left 1; (focus (intro W hW; have hcW := hW.at; (try dsimp only at hcW); go_simp; first | done | with_reducible rfl)); try simp only [Act.put, List.setIfInBounds_toArray, List.set_cons_zero, List.set_cons_succ]) | (refine takeW 16 (v := ?_) rfl (by decide +kernel) (by decide +kernel) (by decide +kernel) (fun _ _ _ h => h) (Or.inl ⟨by rfl, ?_⟩) ?_; rotate_left 1; (focus (intro W hW; go_simp; first | done | with_reducible rfl)); try simp only [Act.put, List.setIfInBounds_toArray, List.set_cons_zero, List.set_cons_succ]) | (refine takeW 16 rfl (by decide +kernel) (by decide +kernel) (by decide +kernel) (fun _ _ _ h => h) (Or.inr ⟨by rfl, rfl⟩) ?_; try simp only [Act.put, List.setIfInBounds_toArray, List.set_cons_zero, List.set_cons_succ]) | skip); (first | (refine takeT 17 (v := ?_) rfl (by decide +kernel) (by decide +kernel) (by decide +kernel) (fun _ _ _ h => h) (by decide +kernel) (Or.inl ⟨by rfl, ?_⟩) ?_; rotate_left 1; (focus (intro W hW; have hcW := hW.at; (try dsimp only at hcW); go_simp; first | done | with_reducible rfl)); try simp only [Act.put, List.setIfInBounds_toArray, List.set_cons_zero, List.set_cons_succ]) | (refine takeW 17 (v := ?_) rfl (by decide +kernel) (by decide +kernel) (by decide +kernel) (fun _ _ _ h => h) (Or.inl ⟨by rfl, ?_⟩) ?_; rotate_left 1; (focus (intro W hW; go_simp; first | done | with_reducible rfl)); try simp only [Act.put, List.setIfInBounds_toArray, List.set_cons_zero, List.set_cons_succ]) | (refine takeW 17 rfl (by decide +kernel) (by decide +kernel) (by decide +kernel) (fun _ _ _ h => h) (Or.inr ⟨by rfl, rfl⟩) ?_; try simp only [Act.put, List.setIfInBounds_toArray, List.set_cons_zero, List.set_cons_succ]) | skip))
      refine takeT 18 (v := .string ⟨ys.toArray⟩) rfl (by decide +kernel) (by decide +kernel) (by decide +kernel) (fun _ _ _ h => h) (by decide +kernel) (Or.inl ⟨by rfl, ?_⟩) ?_
      · intro W hW
        have q := cva.out W hW
        go_simp
        first | done | with_reducible rfl
      try simp only [Act.put, List.setIfInBounds_toArray, List.set_cons_zero, List.set_cons_succ]
      ((first | (refine takeT 19 (v := ?_) rfl (by decide +kernel) (by decide +kernel) (by decide +kernel) (fun _ _ _ h => h) (by decide +kernel) (Or.inl ⟨by rfl, ?_⟩) ?_; rotate_left 1; (focus (intro W hW; have hcW := hW.at; (try dsimp only at hcW); go_simp; first | done | with_reducible rfl)); try simp only [Act.put, List.setIfInBounds_toArray, List.set_cons_zero, List.set_cons_succ]) | (refine takeW 19 (v := ?_) rfl (by decide +kernel) (by decide +kernel) (by decide +kernel) (fun _ _ _ h => h) (Or.inl ⟨by rfl, ?_⟩) ?_; rotate_left 1; (focus (intro W hW; go_simp; first | done | with_reducible rfl)); try simp only [Act.put, List.setIfInBounds_toArray, List.set_cons_zero, List.set_cons_succ]) | (refine takeW 19 rfl (by decide +kernel) (by decide +kernel) (by decide +kernel) (fun _ _ _ h => h) (Or.inr ⟨by rfl, rfl⟩) ?_; try simp only [Act.put, List.setIfInBounds_toArray, List.set_cons_zero, List.set_cons_succ]) | skip); (first | (refine takeT 20 (v := ?_) rfl (by decide +kernel) (by decide +kernel) (by decide +kernel) (fun _ _ _ h => h) (by decide +kernel) (Or.inl ⟨by rfl, ?_⟩) ?_; rotate_left 1; (focus (intro W hW; have hcW := hW.at; (try dsimp only at hcW); go_simp; first | done | with_reducible rfl)); try simp only [Act.put, List.setIfInBounds_toArray, List.set_cons_zero, List.set_cons_succ]) | (refine takeW 20 (v := ?_) rfl (by decide +kernel) (by decide +kernel) (by decide +kernel) (fun _ _ _ h => h) (Or.inl ⟨by rfl, ?_⟩) ?_; rotate_left 1; (focus (intro W hW; go_simp; first | done | with_reducible rfl)); try simp only [Act.put, List.setIfInBounds_toArray, List.set_cons_zero, List.set_cons_succ]) | (refine takeW 20 rfl (by decide +kernel) (by decide +kernel) (by decide +kernel) (fun _ _ _ h => h) (Or.inr ⟨by rfl, rfl⟩) ?_; try simp only [Act.put, List.setIfInBounds_toArray, List.set_cons_zero, List.set_cons_succ]) | skip); (first | (refine takeT 21 (v := ?_) rfl (by decide +kernel) (by decide +kernel) (by decide +kernel) (fun _ _ _ h => h) (by decide +kernel) (Or.inl ⟨by rfl, ?_⟩) ?_; rotate_left 1; (focus (intro W hW; have hcW := hW.at; (try dsimp only at hcW); go_simp; first | done | with_reducible rfl)); try simp only [Act.put, List.setIfInBounds_toArray, List.set_cons_zero, List.set_cons_succ]) | (refine takeW 21 (v := ?_) rfl (by decide +kernel) (by decide +kernel) (by decide +kernel) (fun _ _ _ h => h) (Or.inl ⟨by rfl, ?_⟩) ?_; rotate_left 1; (focus (intro W hW; go_simp; first | done | with_reducible rfl)); try simp only [Act.put, List.setIfInBounds_toArray, List.set_cons_zero, List.set_cons_succ]) | (refine takeW 21 rfl (by decide +kernel) (by decide +kernel) (by decide +kernel) (fun _ _ _ h => h) (Or.inr ⟨by rfl, rfl⟩) ?_; try simp only [Act.put, List.setIfInBounds_toArray, List.set_cons_zero, List.set_cons_succ]) | skip))
      refine takeT 22 (v := .string ⟨ys.toArray⟩) rfl (by decide +kernel) (by decide +kernel) (by decide +kernel) (fun _ _ _ h => h) (by decide +kernel) (Or.inl ⟨by rfl, ?_⟩) ?_
      · intro W hW
        have q := cvb.out W hW
        go_simp
        first | done | with_reducible rfl
      try simp only [Act.put, List.setIfInBounds_toArray, List.set_cons_zero, List.set_cons_succ]
      ((first | (refine takeT 23 (v := ?_) rfl (by decide +kernel) (by decide +kernel) (by decide +kernel) (fun _ _ _ h => h) (by decide +kernel) (Or.inl ⟨by rfl, ?_⟩) ?_; rotate_left 1; (focus (intro W hW; have hcW := hW.at; (try dsimp only at hcW); go_simp; first | done | with_reducible rfl)); try simp only [Act.put, List.setIfInBounds_toArray, List.set_cons_zero, List.set_cons_succ]) | (refine takeW 23 (v := ?_) rfl (by decide +kernel) (by decide +kernel) (by decide +kernel) (fun _ _ _ h => h) (Or.inl ⟨by rfl, ?_⟩) ?_; rotate_left 1; (focus (intro W hW; go_simp; first | done | with_reducible rfl)); try simp only [Act.put, List.setIfInBounds_toArray, List.set_cons_zero, List.set_cons_succ]) | (refine takeW 23 rfl (by decide +kernel) (by decide +kernel) (by decide +kernel) (fun _ _ _ h => h) (Or.inr ⟨by rfl, rfl⟩) ?_; try simp only [Act.put, List.setIfInBounds_toArray, List.set_cons_zero, List.set_cons_succ]) | skip); (first | (refine takeT 24 (v := ?_) rfl (by decide +kernel) (by decide +kernel) (by decide +kernel) (fun _ _ _ h => h) (by decide +kernel) (Or.inl ⟨by rfl, ?_⟩) ?_; rotate_left 1; (focus (intro W hW; have hcW := hW.at; (try dsimp only at hcW); go_simp; first | done | with_reducible rfl)); try simp only [Act.put, List.setIfInBounds_toArray, List.set_cons_zero, List.set_cons_succ]) | (refine takeW 24 (v := ?_) rfl (by decide +kernel) (by decide +kernel) (by decide +kernel) (fun _ _ _ h => h) (Or.inl ⟨by rfl, ?_⟩) ?_; rotate_left 1; (focus (intro W hW; go_simp; first | done | with_reducible rfl)); try simp only [Act.put, List.setIfInBounds_toArray, List.set_cons_zero, List.set_cons_succ]) | (refine takeW 24 rfl (by decide +kernel) (by decide +kernel) (by decide +kernel) (fun _ _ _ h => h) (Or.inr ⟨by rfl, rfl⟩) ?_; try simp only [Act.put, List.setIfInBounds_toArray, List.set_cons_zero, List.set_cons_succ]) | skip); (first | (refine takeT 25 (v := ?_) rfl (by decide +kernel) (by decide +kernel) (by decide +kernel) (fun _ _ _ h => h) (by decide +kernel) (Or.inl ⟨by rfl, ?_⟩) ?_; rotate_left 1; (focus (intro W hW; have hcW := hW.at; (try dsimp only at hcW); go_simp; first | done | with_reducible rfl)); try simp only [Act.put, List.setIfInBounds_toArray, List.set_cons_zero, List.set_cons_succ]) | (refine takeW 25 (v := ?_) rfl (by decide +kernel) (by decide +kernel) (by decide +kernel) (fun _ _ _ h => h) (Or.inl ⟨by rfl, ?_⟩) ?_; rotate_left 1; (focus (intro W hW; go_simp; first | done | with_reducible rfl)); try simp only [Act.put, List.setIfInBounds_toArray, List.set_cons_zero, List.set_cons_succ]) | (refine takeW 25 rfl (by decide +kernel) (by decide +kernel) (by decide +kernel) (fun _ _ _ h => h) (Or.inr ⟨by rfl, rfl⟩) ?_; try simp only [Act.put, List.setIfInBounds_toArray, List.set_cons_zero, List.set_cons_succ]) | skip))
      refine doneT (by kernel_rfl) ?_
      clear cva cvb hc5' e30'
      go_wp2_with fail
      go_loopg [22] ys.length (fun g' i wq => ∃ j : Nat, j + g' = ys.length ∧ i = .int .i64 j ∧ RowKit.Hid (Mob wq qo ys.length) ∧ RowKit.Hid (Cx v2.heap.size g3 g4 st true A A' A2 (some ⟨bl, ol, none⟩) A6 c c' c2 c5 c6 ps qs xs v2 wq))
      case atStart => exact ⟨0, by omega, rfl, Lib.hid ⟨hmob.out.row⟩, Lib.hid (hcx1.out.step (Below.refl _ _).drew)⟩
      case round =>
      obtain ⟨j, hjg, rfl, hmob2, hcx⟩ := hrel
      by_cases hj : j < ys.length
      · obtain ⟨z, hz1, hz2'⟩ := hmob2.out.cell hj
        have hji : (j : Int) < (ys.length : Int) := by omega
        have hst : ∀ v : Value, Below v2.heap.size wr (wr.setCell ⟨qo, j, none⟩ v) := fun v => (Below.refl v2.heap.size wr).setCell (by exact hqB) v
        replace hst := Lib.hid hst
        go_wp2_with fail
        go_roundg (gk - 1)
        case measure => omega
        case rel => exact ⟨j + 1, by omega, by go_num, Lib.hid (hmob2.out.set _ _), Lib.hid (hcx.out.step (hst.out _))⟩
      obtain rfl : j = ys.length := by omega
      clear hmob2
      have KC := Lib.hid (clone_any wr A6 c6 qs (hcx.out.k.more hcx.out.le) hqs.out)
      go_wp2_with fail
      refine KC.out.mono ?_
      rintro e w2 ⟨x2, rfl, p2, hB2⟩
      obtain ⟨A7, c7, rfl⟩ := p2.shape
      obtain ⟨w8, hcv, hr8, hb8⟩ := bey_all w2
      have hne8 : 0 < bey.length → ∀ ad, (some ⟨w2.heap.size, 0, none⟩ : Option Addr) = some ad → some ad.block ≠ (Value.slice A7 qs.length c7).ownBlock := fun _ ad e e2 => by
        obtain rfl := Option.some.inj e
        exact absurd (p2.lt _ e2.symm).2 (Nat.lt_irrefl _)
      have p8 := Lib.hid (p2.below hb8)
      have hB28 := hB2.trans (hb8.mono hB2.size)
      replace hne8 := Lib.hid hne8
      replace hr8 := Lib.hid hr8
      go_wp2_with (at_builtin; refine wpl_appendPkN Try.underlying22 Try.info26 rfl (.tmp 202) (.tmp 205) rfl wr.heap.size _ qs rfl p8.out _ 6 6 bey rfl hr8.out hne8.out rfl (by omega) hB28.size ?_; intro v9 w9 p9 hB9; refine Hid.out ?_)
      have hBt := hB28.trans hB9
      have hcx9 := Lib.hid (hcx.out.next hBt)
      obtain ⟨zr, hzr⟩ : ∃ zr, qs ++ [bey] = zr := ⟨_, rfl⟩
      rw [hzr] at p9
      have hzl : zr.length = qs.length + 1 := by rw [← hzr]; simp
      obtain ⟨A10, c10, rfl⟩ := p9.shape
      have hR := pk_rds p9
      have hle10 := hR.le
      have hRt := hR.take (k := qs.length) (by omega)
      rw [show zr.take qs.length = qs by rw [← hzr]; simp] at hRt
      obtain ⟨b, off, A11, c11, rfl, hbl, hc11, hr11⟩ := hR.at_ (k := qs.length) (by omega)
      rw [show zr.getD qs.length [] = bey by rw [← hzr]; simp [List.getD]] at hc11 hr11
      clear p9 hB9 hBt hB28 hB2 p2 p8 hne8 hr8 hcv hb8 hR hzr
      have hzi : (qs.length : Int) < (zr.length : Int) := by omega
      have hle11 : qs.length ≤ c10 := by omega
      replace hzl := Lib.hid hzl
      replace hRt := Lib.hid hRt
      replace hc11 := Lib.hid hc11
      replace hr11 := Lib.hid hr11
      have e40 := block_at hcx9.out.b4 (i := 0) (v := .bool true) rfl
      have hl4' : g4 < w9.heap.size := Nat.lt_of_lt_of_le hcx9.out.l4 hcx9.out.le
      refine Lib.hid ?_
      go_wp2_with fail
      refine startT (S := fun a => a.block < w9.heap.size) (T := []) 11 (by kernel_rfl) rfl (l := #[false, false, false, false, false, false, false, false, false, false, false]) rfl ?_
      ((first | (refine takeT 0 (v := ?_) rfl (by decide +kernel) (by decide +kernel) (by decide +kernel) (fun _ _ _ h => h) (by decide +kernel) (Or.inl ⟨by rfl, ?_⟩) ?_; rotate_left 1; (focus (intro W hW; have hcW := hW.at; (try dsimp only at hcW); go_simp; first | done | with_reducible rfl)); try simp only [Act.put, List.setIfInBounds_toArray, List.set_cons_zero, List.set_cons_succ]) | (refine takeW 0 (v := ?_) rfl (by decide +kernel) (by decide +kernel) (by decide +kernel) (fun _ _ _ h => h) (Or.inl ⟨by rfl, ?_⟩) ?_; rotate_left 1; (focus (intro W hW; go_simp; first | done | with_reducible rfl)); try simp only [Act.put, List.setIfInBounds_toArray, List.set_cons_zero, List.set_cons_succ]) | (refine takeW 0 rfl (by decide +kernel) (by decide +kernel) (by decide +kernel) (fun _ _ _ h => h) (Or.inr ⟨by rfl, rfl⟩) ?_; try simp only [Act.put, List.setIfInBounds_toArray, List.set_cons_zero, List.set_cons_succ]) | skip); (first | (refine takeT 1 (v := ?_) rfl (by decide +kernel) (by decide +kernel) (by decide +kernel) (fun _ _ _ h => h) (by decide +kernel) (Or.inl ⟨by rfl, ?_⟩) ?_; rotate_left 1; (focus (intro W hW; have hcW := hW.at; (try dsimp only at hcW); go_simp; first | done | with_reducible rfl)); try simp only [Act.put, List.setIfInBounds_toArray, List.set_cons_zero, List.set_cons_succ]) | (refine takeW 1 (v := ?_) rfl (by decide +kernel) (by decide +kernel) (by decide +kernel) (fun _ _ _ h => h) (Or.inl ⟨by rfl, ?_⟩) ?_; rotate_left 1; (focus (intro W hW; go_simp; first | done | with_reducible rfl)); try simp only [Act.put, List.setIfInBounds_toArray, List.set_cons_zero, List.set_cons_succ]) | (refine takeW 1 rfl (by decide +kernel) (by decide +kernel) (by decide +kernel) (fun _ _ _ h => h) (Or.inr ⟨by rfl, rfl⟩) ?_; try simp only [Act.put, List.setIfInBounds_toArray, List.set_cons_zero, List.set_cons_succ]) | skip); (first | (refine takeT 2 (v := ?_) rfl (by decide +kernel) (by decide +kernel) (by decide +kernel) (fun _ _ _ h => h) (by decide +kernel) (Or.inl ⟨by rfl, ?_⟩) ?_; rotate_left 1; (focus (intro W hW; have hcW := hW.at; (try dsimp only at hcW); go_simp; first | done | with_reducible rfl)); try simp only [Act.put, List.setIfInBounds_toArray, List.set_cons_zero, List.set_cons_succ]) | (refine takeW 2 (v := ?_) rfl (by decide +kernel) (by decide +kernel) (by decide +kernel) (fun _ _ _ h => h) (Or.inl ⟨by rfl, ?_⟩) ?_; rotate_left 1; (focus (intro W hW; go_simp; first | done | with_reducible rfl)); try simp only [Act.put, List.setIfInBounds_toArray, List.set_cons_zero, List.set_cons_succ]) | (refine takeW 2 rfl (by decide +kernel) (by decide +kernel) (by decide +kernel) (fun _ _ _ h => h) (Or.inr ⟨by rfl, rfl⟩) ?_; try simp only [Act.put, List.setIfInBounds_toArray, List.set_cons_zero, List.set_cons_succ]) | skip); (first | (refine takeT 3 (v := ?_) rfl (by decide +kernel) (by decide +kernel) (by decide +kernel) (fun _ _ _ h => h) (by decide +kernel) (Or.inl ⟨by rfl, ?_⟩) ?_; rotate_left 1; (focus (intro W hW; have hcW := hW.at; (try dsimp only at hcW); go_simp; first | done | with_reducible rfl)); try simp only [Act.put, List.setIfInBounds_toArray, List.set_cons_zero, List.set_cons_succ]) | (refine takeW 3 (v := ?_) rfl (by decide +kernel) (by decide +kernel) (by decide +kernel) (fun _ _ _ h => h) (Or.inl ⟨by rfl, ?_⟩) ?_; rotate_left 1; (focus (intro W hW; go_simp; first | done | with_reducible rfl)); try simp only [Act.put, List.setIfInBounds_toArray, List.set_cons_zero, List.set_cons_succ]) | (refine takeW 3 rfl (by decide +kernel) (by decide +kernel) (by decide +kernel) (fun _ _ _ h => h) (Or.inr ⟨by rfl, rfl⟩) ?_; try simp only [Act.put, List.setIfInBounds_toArray, List.set_cons_zero, List.set_cons_succ]) | skip); (first | (refine takeT 4 (v := ?_) rfl (by decide +kernel) (by decide +kernel) (by decide +kernel) (fun _ _ _ h => h) (by decide +kernel) (Or.inl ⟨by rfl, ?_⟩) ?_; rotate_left 1; (focus (intro W hW; have hcW := hW.at; (try dsimp only at hcW); go_simp; first | done | with_reducible rfl)); try simp only [Act.put, List.setIfInBounds_toArray, List.set_cons_zero, List.set_cons_succ]) | (refine takeW 4 (v := ?_) rfl (by decide +kernel) (by decide +kernel) (by decide +kernel) (fun _ _ _ h => h) (Or.inl ⟨by rfl, ?_⟩) ?_; rotate_left 1; (focus (intro W hW; go_simp; first | done | with_reducible rfl)); try simp only [Act.put, List.setIfInBounds_toArray, List.set_cons_zero, List.set_cons_succ]) | (refine takeW 4 rfl (by decide +kernel) (by decide +kernel) (by decide +kernel) (fun _ _ _ h => h) (Or.inr ⟨by rfl, rfl⟩) ?_; try simp only [Act.put, List.setIfInBounds_toArray, List.set_cons_zero, List.set_cons_succ]) | skip); (first | (refine takeT 5 (v := ?_) rfl (by decide +kernel) (by decide +kernel) (by decide +kernel) (fun _ _ _ h => h) (by decide +kernel) (Or.inl ⟨by rfl, ?_⟩) ?_; rotate_left 1; (focus (intro W hW; have hcW := hW.at; (try dsimp only at hcW); go_simp; first | done | with_reducible rfl)); try simp only [Act.put, List.setIfInBounds_toArray, List.set_cons_zero, List.set_cons_succ]) | (refine takeW 5 (v := ?_) rfl (by decide +kernel) (by decide +kernel) (by decide +kernel) (fun _ _ _ h => h) (Or.inl ⟨by rfl, ?_⟩) ?_; rotate_left 1; (focus (intro W hW; go_simp; first | done | with_reducible rfl)); try simp only [Act.put, List.setIfInBounds_toArray, List.set_cons_zero, List.set_cons_succ]) | (refine takeW 5 rfl (by decide +kernel) (by decide +kernel) (by decide +kernel) (fun _ _ _ h => h) (Or.inr ⟨by rfl, rfl⟩) ?_; try simp only [Act.put, List.setIfInBounds_toArray, List.set_cons_zero, List.set_cons_succ]) | skip); (first | (refine takeT 6 (v := ?_) rfl (by decide +kernel) (by decide +kernel) (by decide +kernel) (fun _ _ _ h => h) (by decide +kernel) (Or.inl ⟨by rfl, ?_⟩) ?_; rotate_left 1; (focus (intro W hW; have hcW := hW.at; (try dsimp only at hcW); go_simp; first | done | with_reducible rfl)); try simp only [Act.put, List.setIfInBounds_toArray, List.set_cons_zero, List.set_cons_succ]) | (refine takeW 6 (v := ?_) rfl (by decide +kernel) (by decide +kernel) (by decide +kernel) (fun _ _ _ h => h) (Or.inl ⟨by rfl, ?_⟩) ?_; rotate_left 1; (focus (intro W hW; go_simp; first | done | with_reducible rfl)); try simp only [Act.put, List.setIfInBounds_toArray, List.set_cons_zero, List.set_cons_succ]) | (refine takeW 6 rfl (by decide +kernel) (by decide +kernel) (by decide +kernel) (fun _ _ _ h => h) (Or.inr ⟨by rfl, rfl⟩) ?_; try simp only [Act.put, List.setIfInBounds_toArray, List.set_cons_zero, List.set_cons_succ]) | skip); (first | (refine takeT 7 (v := ?_) rfl (by decide +kernel) (by decide +kernel) (by decide +kernel) (fun _ _ _ h => h) (by decide +kernel) (Or.inl ⟨by rfl, ?_⟩) ?_; rotate_left 1; (focus (intro W hW; have hcW := hW.at; (try dsimp only at hcW); go_simp; first | done | with_reducible rfl)); try simp only [Act.put, List.setIfInBounds_toArray, List.set_cons_zero, List.set_cons_succ]) | (refine takeW 7 (v := ?_) rfl (by decide +kernel) (by decide +kernel) (by decide +kernel) (fun _ _ _ h => h) (Or.inl ⟨by rfl, ?_⟩) ?_; rotate_left 1; (focus (intro W hW; go_simp; first | done | with_reducible rfl)); try simp only [Act.put, List.setIfInBounds_toArray, List.set_cons_zero, List.set_cons_succ]) | (refine takeW 7 rfl (by decide +kernel) (by decide +kernel) (by decide +kernel) (fun _ _ _ h => h) (Or.inr ⟨by rfl, rfl⟩) ?_; try simp only [Act.put, List.setIfInBounds_toArray, List.set_cons_zero, List.set_cons_succ]) | skip); (first | (refine takeT 8 (v := ?_) rfl (by decide +kernel) (by decide +kernel) (by decide +kernel) (fun _ _ _ h => h) (by decide +kernel) (Or.inl ⟨by rfl, ?_⟩) ?_; rotate_left 1; (focus (intro W hW; have hcW := hW.at; (try dsimp only at hcW); go_simp; first | done | with_reducible rfl)); try simp only [Act.put, List.setIfInBounds_toArray, List.set_cons_zero, List.set_cons_succ]) | (refine takeW 8 (v := ?_) rfl (by decide +kernel) (by decide +kernel) (by decide +kernel) (fun _ _ _ h => h) (Or.inl ⟨by rfl, ?_⟩) ?_; rotate_left 1; (focus (intro W hW; go_simp; first | done | with_reducible rfl)); try simp only [Act.put, List.setIfInBounds_toArray, List.set_cons_zero, List.set_cons_succ]) | (refine takeW 8 rfl (by decide +kernel) (by decide +kernel) (by decide +kernel) (fun _ _ _ h => h) (Or.inr ⟨by rfl, rfl⟩) ?_; try simp only [Act.put, List.setIfInBounds_toArray, List.set_cons_zero, List.set_cons_succ]) | skip); (first | (refine takeT 9 (v := ?_) rfl (by decide +kernel) (by decide +kernel) (by decide +kernel) (fun _ _ _ h => h) (by decide +kernel) (Or.inl ⟨by rfl, ?_⟩) ?_; rotate_left 1; (focus (intro W hW; have hcW := hW.at; (try dsimp only at hcW); go_simp; first | done | with_reducible rfl)); try simp only [Act.put, List.setIfInBounds_toArray, List.set_cons_zero, List.set_cons_succ]) | (refine takeW 9 (v := ?_) rfl (by decide +kernel) (by decide +kernel) (by decide +kernel) (fun _ _ _ h => h) (Or.inl ⟨by rfl, ?_⟩) ?_; rotate_left 1; (focus (intro W hW; go_simp; first | done | with_reducible rfl)); try simp only [Act.put, List.setIfInBounds_toArray, List.set_cons_zero, List.set_cons_succ]) | (refine takeW 9 rfl (by decide +kernel) (by decide +kernel) (by decide +kernel) (fun _ _ _ h => h) (Or.inr ⟨by rfl, rfl⟩) ?_; try simp only [Act.put, List.setIfInBounds_toArray, List.set_cons_zero, List.set_cons_succ]) | skip))
      refine stepT 10 rfl (by decide +kernel) (by rfl) (fun K hK => ?_)
      go_simp
      refine (hear_yes w9.drew true _ c10 qs hRt.out.drew hqs.out A2 c2 xs (hcx9.out.x.more hcx9.out.le).drew hq20 (by omega)).mono ?_
      rintro e w10 ⟨gh, rfl, _, hB10⟩
      replace hB10 : Below w9.heap.size w9 w10 := below_undrew hB10
      refine hK _ _ (.inr fun a ha => hB10.cell ha) ?_
      clear hK K
      try simp only [List.setIfInBounds_toArray, List.set_cons_zero, List.set_cons_succ]
      refine doneT (by kernel_rfl) ?_
      have hcx10 := Lib.hid (hcx9.out.next hB10)
      have hc12 : w10.cell? ⟨b, off + qs.length, none⟩ = some (.slice A11 6 c11) := (hB10.cell hbl).trans hc11.out
      have q11 : (convert 26 9 (.slice A11 6 c11)).run Try.prog w10 = .ok (.string ⟨#[98, 101, 121, 111, 110, 100]⟩) w10 := ((hr11.out.below hB10).cv)
      clear e40 hl4' hB10 hcx9 hc11 hr11 hRt
      have e30 := block_at hcx10.out.b3 (i := 0) (v := .bool st) rfl
      have e31 := block_at hcx10.out.b3 (i := 1) (v := .slice A ps.length c) rfl
      have e40 := block_at hcx10.out.b4 (i := 0) (v := .bool true) rfl
      have e41 := block_at hcx10.out.b4 (i := 1) (v := .slice A' qs.length c') rfl
      have KL := Lib.hid (clear_any w10 st true A A' c c' ps qs (hcx10.out.s.more hcx10.out.le) (hcx10.out.g.more hcx10.out.le) hps.out hqs.out)
      go_wp2_with fail
      refine KL.out.mono ?_
      rintro e w11 ⟨ga, gb, rfl, hna, hnb, hB11⟩
      have hal := ((Below.refl w11.heap.size w11).alloc (Nat.le_refl _) (.cells #[.bool false, .slice (some ⟨ga, 0, none⟩) ps.length ps.length] 28)).alloc (by simp) (.cells #[.bool false, .slice (some ⟨gb, 0, none⟩) qs.length qs.length] 39)
      have hcx11 := (hcx10.out.next hB11).next hal
      have hna1 := hna.below hal
      have hnb1 := hnb.below hal
      have hD := heap_alloc2_new w11 (.cells #[.bool false, .slice (some ⟨ga, 0, none⟩) ps.length ps.length] 28) (.cells #[.bool false, .slice (some ⟨gb, 0, none⟩) qs.length qs.length] 39)
      replace hcx11 := Lib.hid hcx11
      replace hna1 := Lib.hid hna1
      replace hnb1 := Lib.hid hnb1
      replace hD := Lib.hid hD
      clear hna hnb hB11 hal e30 e31 e40 e41 KL hcx10 hc12 q11
      go_wp2_with fail
      generalize (w11.alloc (.cells #[.bool false, .slice (some ⟨ga, 0, none⟩) ps.length ps.length] 28)).alloc (.cells #[.bool false, .slice (some ⟨gb, 0, none⟩) qs.length qs.length] 39) = V at hcx11 hna1 hnb1 hD ⊢
      generalize w11.heap.size + 1 = gd at hD ⊢
      generalize w11.heap.size = gc
      refine (lists_any V (some ⟨ga, 0, none⟩) (some ⟨bl, ol, none⟩) ps.length c5 ps (hna1.out.rds hps.out) (hcx11.out.l.more hcx11.out.le) (by have := hps.out.1; omega)).mono ?_
      rintro e x1 ⟨rfl, hE⟩
      have hcx12 := Lib.hid (hcx11.out.next hE)
      have hnb2 := Lib.hid (hnb1.out.below hE)
      have ed1 := block_at ((hE.block _ (block_lt hD.out)).trans hD.out) (i := 1) (v := .slice (some ⟨gb, 0, none⟩) qs.length qs.length) rfl
      clear hE hcx11 hnb1 hna1 hD
      go_wp2_with fail
      refine (lists_any x1 (some ⟨gb, 0, none⟩) A6 qs.length c6 qs (hnb2.out.rds hqs.out) (hcx12.out.k.more hcx12.out.le) (by omega)).mono ?_
      rintro e x2 ⟨rfl, hE⟩
      have hcx13 := Lib.hid (hcx12.out.next hE)
      have e31 := block_at hcx13.out.b3 (i := 1) (v := .slice A ps.length c) rfl
      clear hE hcx12 hnb2 ed1
      go_wp2_with fail
      refine (lists_any x2 A (some ⟨bl, ol, none⟩) c c5 ps (hcx13.out.s.more hcx13.out.le) (hcx13.out.l.more hcx13.out.le) (by have := hps.out.1; omega)).mono ?_
      rintro e x3 ⟨rfl, hE⟩
      have hcx14 := Lib.hid (hcx13.out.next hE)
      have e41 := block_at hcx14.out.b4 (i := 1) (v := .slice A' qs.length c') rfl
      clear hE hcx13 e31
      go_wp2_with fail
      refine (lists_any x3 A' A6 c' c6 qs (hcx14.out.g.more hcx14.out.le) (hcx14.out.k.more hcx14.out.le) (by omega)).mono ?_
      rintro e x4 ⟨rfl, hE⟩
      have hcx15 := Lib.hid (hcx14.out.next hE)
      have q15 := hcx15.out.x.cv
      clear hE hcx14 e41
      go_wp2_with fail
      refine (lives_any _).mono ?_
      rintro e x5 ⟨rfl, hE⟩
      have hcx16 := Lib.hid (hcx15.out.next hE)
      clear hE hcx15 q15
      go_wp2_with fail
      go_ret
      exact ⟨rfl, hBW.out.trans (hcx16.out.bel.mono hBW.out.size)⟩
end Go.Proofs.Ytjilbgdenolllaa

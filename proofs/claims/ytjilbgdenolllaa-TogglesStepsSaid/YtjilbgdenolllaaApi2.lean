/-
  Helper text: Clear and New; no statement is proved here.
-/
import Derived.Test.YtjilbgdenolllaaApi
namespace Go.Proofs.Ytjilbgdenolllaa
open Go Go.RowKit

set_option maxHeartbeats 1600000 in
set_option maxRecDepth 100000 in
theorem clear_any (w : World) (t rt : Bool) (A A' : Option Addr) (c c' : Nat) (ps qs : List (List UInt8)) (h : Rds w w.heap.size A c ps) (h' : Rds w w.heap.size A' c' qs) (hs : Sml ps) (hs' : Sml qs) :
    Calls Try.prog 16 #[sv t (.slice A ps.length c), sv rt (.slice A' qs.length c')] w (ResR w ⟨false, ps, false, qs⟩) := by
  go_enter Try.func16, Try.ntmps16
  go_wp2
  generalize hW4 : (((w.alloc (.cells #[.bool t, .slice A ps.length c] 28)).alloc (.cells #[.bool rt, .slice A' qs.length c'] 39)).alloc (.cells #[.bool false, .slice none 0 0] 28)).alloc (.cells #[.bool false, .slice none 0 0] 39) = w4
  obtain ⟨hz4, k1, k2, k3, k4, hb4⟩ := four_new hW4.symm
  have hpl : Plc w w4 := ⟨k3, k4⟩
  have e10 := block_at k1 (i := 0) (v := .bool t) rfl
  have e11 := block_at k1 (i := 1) (v := .slice A ps.length c) rfl
  have e20 := block_at k2 (i := 0) (v := .bool rt) rfl
  have e21 := block_at k2 (i := 1) (v := .slice A' qs.length c') rfl
  have hr4 := Lib.hid (h.belowTop hb4)
  have hr4' := Lib.hid (h'.belowTop hb4)
  have hbw := hb4
  replace k1 := Lib.hid k1
  replace k2 := Lib.hid k2
  replace hz4 := Lib.hid hz4
  clear hW4 k3 k4 h h' hb4
  refine startT (S := fun a => a.block = w.heap.size ∨ a.block = w.heap.size + 1) (T := []) 10 (by kernel_rfl) rfl (l := #[false, false, false, false, false, false, false, false, false, false]) rfl ?_
  ((first | (refine takeT 0 (v := ?_) rfl (by decide +kernel) (by decide +kernel) (by decide +kernel) (fun _ _ _ h => h) (by decide +kernel) (Or.inl ⟨by rfl, ?_⟩) ?_; rotate_left 1; (focus (intro W hW; have hcW := hW.at; (try dsimp only at hcW); go_simp; first | done | with_reducible rfl)); try simp only [Act.put, List.setIfInBounds_toArray, List.set_cons_zero, List.set_cons_succ]) | (refine takeW 0 (v := ?_) rfl (by decide +kernel) (by decide +kernel) (by decide +kernel) (fun _ _ _ h => h) (Or.inl ⟨by rfl, ?_⟩) ?_; rotate_left 1; (focus (intro W hW; go_simp; first | done | with_reducible rfl)); try simp only [Act.put, List.setIfInBounds_toArray, List.set_cons_zero, List.set_cons_succ]) | (refine takeW 0 rfl (by decide +kernel) (by decide +kernel) (by decide +kernel) (fun _ _ _ h => h) (Or.inr ⟨by rfl, rfl⟩) ?_; try simp only [Act.put, List.setIfInBounds_toArray, List.set_cons_zero, List.set_cons_succ]) | skip); (first | (refine takeT 1 (v := ?_) rfl (by decide +kernel) (by decide +kernel) (by decide +kernel) (fun _ _ _ h => h) (by decide +kernel) (Or.inl ⟨by rfl, ?_⟩) ?_; rotate_left 1; (focus (intro W hW; have hcW := hW.at; (try dsimp only at hcW); go_simp; first | done | with_reducible rfl)); try simp only [Act.put, List.setIfInBounds_toArray, List.set_cons_zero, List.set_cons_succ]) | (refine takeW 1 (v := ?_) rfl (by decide +kernel) (by decide +kernel) (by decide +kernel) (fun _ _ _ h => h) (Or.inl ⟨by rfl, ?_⟩) ?_; rotate_left 1; (focus (intro W hW; go_simp; first | done | with_reducible rfl)); try simp only [Act.put, List.setIfInBounds_toArray, List.set_cons_zero, List.set_cons_succ]) | (refine takeW 1 rfl (by decide +kernel) (by decide +kernel) (by decide +kernel) (fun _ _ _ h => h) (Or.inr ⟨by rfl, rfl⟩) ?_; try simp only [Act.put, List.setIfInBounds_toArray, List.set_cons_zero, List.set_cons_succ]) | skip); (first | (refine takeT 2 (v := ?_) rfl (by decide +kernel) (by decide +kernel) (by decide +kernel) (fun _ _ _ h => h) (by decide +kernel) (Or.inl ⟨by rfl, ?_⟩) ?_; rotate_left 1; (focus (intro W hW; have hcW := hW.at; (try dsimp only at hcW); go_simp; first | done | with_reducible rfl)); try simp only [Act.put, List.setIfInBounds_toArray, List.set_cons_zero, List.set_cons_succ]) | (refine takeW 2 (v := ?_) rfl (by decide +kernel) (by decide +kernel) (by decide +kernel) (fun _ _ _ h => h) (Or.inl ⟨by rfl, ?_⟩) ?_; rotate_left 1; (focus (intro W hW; go_simp; first | done | with_reducible rfl)); try simp only [Act.put, List.setIfInBounds_toArray, List.set_cons_zero, List.set_cons_succ]) | (refine takeW 2 rfl (by decide +kernel) (by decide +kernel) (by decide +kernel) (fun _ _ _ h => h) (Or.inr ⟨by rfl, rfl⟩) ?_; try simp only [Act.put, List.setIfInBounds_toArray, List.set_cons_zero, List.set_cons_succ]) | skip); (first | (refine takeT 4 (v := ?_) rfl (by decide +kernel) (by decide +kernel) (by decide +kernel) (fun _ _ _ h => h) (by decide +kernel) (Or.inl ⟨by rfl, ?_⟩) ?_; rotate_left 1; (focus (intro W hW; have hcW := hW.at; (try dsimp only at hcW); go_simp; first | done | with_reducible rfl)); try simp only [Act.put, List.setIfInBounds_toArray, List.set_cons_zero, List.set_cons_succ]) | (refine takeW 4 (v := ?_) rfl (by decide +kernel) (by decide +kernel) (by decide +kernel) (fun _ _ _ h => h) (Or.inl ⟨by rfl, ?_⟩) ?_; rotate_left 1; (focus (intro W hW; go_simp; first | done | with_reducible rfl)); try simp only [Act.put, List.setIfInBounds_toArray, List.set_cons_zero, List.set_cons_succ]) | (refine takeW 4 rfl (by decide +kernel) (by decide +kernel) (by decide +kernel) (fun _ _ _ h => h) (Or.inr ⟨by rfl, rfl⟩) ?_; try simp only [Act.put, List.setIfInBounds_toArray, List.set_cons_zero, List.set_cons_succ]) | skip); (first | (refine takeT 5 (v := ?_) rfl (by decide +kernel) (by decide +kernel) (by decide +kernel) (fun _ _ _ h => h) (by decide +kernel) (Or.inl ⟨by rfl, ?_⟩) ?_; rotate_left 1; (focus (intro W hW; have hcW := hW.at; (try dsimp only at hcW); go_simp; first | done | with_reducible rfl)); try simp only [Act.put, List.setIfInBounds_toArray, List.set_cons_zero, List.set_cons_succ]) | (refine takeW 5 (v := ?_) rfl (by decide +kernel) (by decide +kernel) (by decide +kernel) (fun _ _ _ h => h) (Or.inl ⟨by rfl, ?_⟩) ?_; rotate_left 1; (focus (intro W hW; go_simp; first | done | with_reducible rfl)); try simp only [Act.put, List.setIfInBounds_toArray, List.set_cons_zero, List.set_cons_succ]) | (refine takeW 5 rfl (by decide +kernel) (by decide +kernel) (by decide +kernel) (fun _ _ _ h => h) (Or.inr ⟨by rfl, rfl⟩) ?_; try simp only [Act.put, List.setIfInBounds_toArray, List.set_cons_zero, List.set_cons_succ]) | skip); (first | (refine takeT 6 (v := ?_) rfl (by decide +kernel) (by decide +kernel) (by decide +kernel) (fun _ _ _ h => h) (by decide +kernel) (Or.inl ⟨by rfl, ?_⟩) ?_; rotate_left 1; (focus (intro W hW; have hcW := hW.at; (try dsimp only at hcW); go_simp; first | done | with_reducible rfl)); try simp only [Act.put, List.setIfInBounds_toArray, List.set_cons_zero, List.set_cons_succ]) | (refine takeW 6 (v := ?_) rfl (by decide +kernel) (by decide +kernel) (by decide +kernel) (fun _ _ _ h => h) (Or.inl ⟨by rfl, ?_⟩) ?_; rotate_left 1; (focus (intro W hW; go_simp; first | done | with_reducible rfl)); try simp only [Act.put, List.setIfInBounds_toArray, List.set_cons_zero, List.set_cons_succ]) | (refine takeW 6 rfl (by decide +kernel) (by decide +kernel) (by decide +kernel) (fun _ _ _ h => h) (Or.inr ⟨by rfl, rfl⟩) ?_; try simp only [Act.put, List.setIfInBounds_toArray, List.set_cons_zero, List.set_cons_succ]) | skip))
  refine stepT 3 rfl (by decide +kernel) (by rfl) ?_
  intro K hK
  go_simp
  refine (ownS_any _ false A c ps hr4.out.drew hs).mono ?_
  rintro e w7 ⟨ga, rfl, hna, hb7⟩
  replace hb7 := hb7.drewl
  refine hK _ _ (.inr fun a ha => by rcases ha with h | h <;> exact hb7.cell (by rw [h]; first | exact block_lt k1.out | exact block_lt k2.out)) ?_
  replace k1 := Lib.hid ((hb7.block _ (block_lt k1.out)).trans k1.out)
  replace k2 := Lib.hid ((hb7.block _ (block_lt k2.out)).trans k2.out)
  replace hr4' := Lib.hid (hr4'.out.belowTop hb7)
  replace hpl := hpl.below hb7
  replace hna := Lib.hid (hna.mono (base' := w.heap.size) hbw.size)
  replace hbw := hbw.trans (hb7.mono hbw.size)
  clear hK K e10 e11 e20 e21 hr4 hb7 hz4
  try simp only [List.setIfInBounds_toArray, List.set_cons_zero, List.set_cons_succ]
  refine stepT 7 rfl (by decide +kernel) (by rfl) ?_
  intro K hK
  go_simp
  refine (ownR_any _ false A' c' qs hr4'.out hs').mono ?_
  rintro e w8 ⟨gb, rfl, hnb, hb8⟩
  refine hK _ _ (.inr fun a ha => by rcases ha with h | h <;> exact hb8.cell (by rw [h]; first | exact block_lt k1.out | exact block_lt k2.out)) ?_
  replace k1 := Lib.hid ((hb8.block _ (block_lt k1.out)).trans k1.out)
  replace k2 := Lib.hid ((hb8.block _ (block_lt k2.out)).trans k2.out)
  replace hpl := hpl.below hb8
  replace hna := Lib.hid (hna.out.below hb8)
  replace hnb := Lib.hid (hnb.mono (base' := w.heap.size) hbw.size)
  replace hbw := hbw.trans (hb8.mono hbw.size)
  clear hK K hr4' hb8
  try simp only [List.setIfInBounds_toArray, List.set_cons_zero, List.set_cons_succ]
  obtain ⟨p1, p2⟩ := hpl
  have d0 := block_at p1 (i := 0) (v := .bool false) rfl
  have d1 := block_at p1 (i := 1) (v := .slice none 0 0) rfl
  have f0 := block_free p1 0
  have f1 := block_free p1 1
  have nn2 : w.heap.size + 1 + 1 + 1 ≠ w.heap.size + 1 + 1 := by omega
  have hg8 := grown_trans (grown_setCell w8 ⟨w.heap.size + 1 + 1, 0, none⟩ (.bool false)) (grown_setCell (w8.setCell ⟨w.heap.size + 1 + 1, 0, none⟩ (.bool false)) ⟨w.heap.size + 1 + 1, 1, none⟩ (.slice (some ⟨ga, 0, none⟩) ps.length ps.length))
  refine stepT 8 rfl (by decide +kernel) (by rfl) ?_
  intro K hK
  go_simp
  refine hK _ _ (.inr fun a ha => by rcases ha with h | h <;> exact World.cell?_of_block (hg8.block _ (by rw [h]; first | exact block_lt k1.out | exact block_lt k2.out) (by rw [h]; intro e; have := Option.some.inj e; simp only at this; omega))) ?_
  replace p2 := block_grown p2 hg8 (fun e => nn2 (Option.some.inj e))
  have p1' := set2 p1 (.bool false) (.slice (some ⟨ga, 0, none⟩) ps.length ps.length)
  replace hna := Lib.hid (hna.out.stores2 p1 (by decide) (by decide) (.bool false) (.slice (some ⟨ga, 0, none⟩) ps.length ps.length))
  replace hnb := Lib.hid (hnb.out.stores2 p1 (by decide) (by decide) (.bool false) (.slice (some ⟨ga, 0, none⟩) ps.length ps.length))
  replace hbw := below2 hbw (by omega : w.heap.size ≤ w.heap.size + 1 + 1) (.bool false) (.slice (some ⟨ga, 0, none⟩) ps.length ps.length)
  replace k1 := Lib.hid (block_grown k1.out hg8 (fun e => by have := Option.some.inj e; simp only at this; omega))
  replace k2 := Lib.hid (block_grown k2.out hg8 (fun e => by have := Option.some.inj e; simp only at this; omega))
  clear hK K d0 d1 f0 f1 p1 hg8
  try simp only [List.setIfInBounds_toArray, List.set_cons_zero, List.set_cons_succ]
  generalize (w8.setCell ⟨w.heap.size + 1 + 1, 0, none⟩ (.bool false)).setCell ⟨w.heap.size + 1 + 1, 1, none⟩ (.slice (some ⟨ga, 0, none⟩) ps.length ps.length) = w9 at p2 p1' hna hnb hbw k1 k2 ⊢
  have d0 := block_at p2 (i := 0) (v := .bool false) rfl
  have d1 := block_at p2 (i := 1) (v := .slice none 0 0) rfl
  have f0 := block_free p2 0
  have f1 := block_free p2 1
  have hg9 := grown_trans (grown_setCell w9 ⟨w.heap.size + 1 + 1 + 1, 0, none⟩ (.bool false)) (grown_setCell (w9.setCell ⟨w.heap.size + 1 + 1 + 1, 0, none⟩ (.bool false)) ⟨w.heap.size + 1 + 1 + 1, 1, none⟩ (.slice (some ⟨gb, 0, none⟩) qs.length qs.length))
  refine stepT 9 rfl (by decide +kernel) (by rfl) ?_
  intro K hK
  go_simp
  refine hK _ _ (.inr fun a ha => by rcases ha with h | h <;> exact World.cell?_of_block (hg9.block _ (by rw [h]; first | exact block_lt k1.out | exact block_lt k2.out) (by rw [h]; intro e; have := Option.some.inj e; simp only at this; omega))) ?_
  have p2' := set2 p2 (.bool false) (.slice (some ⟨gb, 0, none⟩) qs.length qs.length)
  replace p1' := block_grown p1' hg9 (fun e => nn2 (Option.some.inj e).symm)
  replace hna := Lib.hid (hna.out.stores2 p2 (by decide) (by decide) (.bool false) (.slice (some ⟨gb, 0, none⟩) qs.length qs.length))
  replace hnb := Lib.hid (hnb.out.stores2 p2 (by decide) (by decide) (.bool false) (.slice (some ⟨gb, 0, none⟩) qs.length qs.length))
  replace hbw := below2 hbw (by omega : w.heap.size ≤ w.heap.size + 1 + 1 + 1) (.bool false) (.slice (some ⟨gb, 0, none⟩) qs.length qs.length)
  clear hK K d0 d1 f0 f1 p2 hg9 k1 k2
  refine doneT (by kernel_rfl) ?_
  go_wp2
  refine bodyPost_ret (results_row_row rfl _ _ _ _ _ _ _ _ _ _ _ _ rfl p1' Try.underlying28 rfl (by kernel_rfl) rfl p2' Try.underlying39 rfl (by kernel_rfl)) rfl ?_
  exact ⟨ga, gb, rfl, hna.out, hnb.out, hbw⟩

/-- Too many packets, or one that is too long. -/
theorem new_many (w : World) (A : Option Addr) (n c : Nat) (hn : 4096 < n) : Calls Try.prog 10 #[.slice A n c] w (ResNE w 3) := by
  have h1 : (4096 : Int) < (n : Int) := by omega
  have hb := Lib.hid (fun (o1 : Obj) => (Below.refl w.heap.size w).alloc (Nat.le_refl _) o1)
  go_enter Try.func10, Try.ntmps10
  go_wp2
  refine bodyPost_ret (results_row_tmp rfl _ _ _ _ _ _ _ rfl (heap_alloc_new w _) Try.underlying28 rfl (by kernel_rfl)) rfl ?_
  exact ⟨rfl, hb.out _⟩

set_option maxHeartbeats 800000 in
set_option maxRecDepth 100000 in
theorem new_long (w : World) (A : Option Addr) (c : Nat) (ps : List (List UInt8)) (h : Rds w w.heap.size A c ps) (hn : ps.length ≤ 4096) (J : Nat) (hJ : J < ps.length) (hlong : 1024 < (ps.getD J []).length) (hshort : ∀ j, j < J → (ps.getD j []).length ≤ 1024) :
    Calls Try.prog 10 #[.slice A ps.length c] w (ResNE w 3) := by
  have h1 : ¬ (4096 : Int) < (ps.length : Int) := by omega
  have hb := Lib.hid (fun (o1 : Obj) => (Below.refl w.heap.size w).alloc (Nat.le_refl _) o1)
  have hsh := Lib.hid hshort
  clear hshort
  go_enter Try.func10, Try.ntmps10
  go_wp2
  go_loopg [12] J (fun g i wr => ∃ k : Nat, k + g = J ∧ i = .int .i64 k ∧ wr = w.alloc (.cells #[.bool false, .slice none 0 0] 28))
  case atStart => exact ⟨0, by omega, rfl, rfl⟩
  case round =>
    obtain ⟨k, hkg, rfl, rfl⟩ := hrel
    obtain ⟨b, off, A1, c1, rfl, hlt, hc1, _⟩ := h.at_ (k := k) (by omega)
    by_cases hk : k = J
    · subst hk
      have h2 : (1024 : Int) < ((ps.getD k []).length : Int) := by omega
      clear hsh
      generalize ps.getD k [] = xs at hc1 h2
      go_wp2
      refine bodyPost_ret (results_row_tmp rfl _ _ _ _ _ _ _ rfl (heap_alloc_new w _) Try.underlying28 rfl (by kernel_rfl)) rfl ?_
      exact ⟨rfl, hb.out _⟩
    · have h2 : ¬ (1024 : Int) < ((ps.getD k []).length : Int) := by have := hsh.out k (by omega); omega
      clear hlong
      generalize ps.getD k [] = xs at hc1 h2
      go_wp2
      go_roundg (gk - 1)
      case measure => omega
      case rel => exact ⟨k + 1, by omega, by go_num, rfl⟩

set_option maxHeartbeats 800000 in
set_option maxRecDepth 100000 in
theorem new_good (w : World) (A : Option Addr) (c : Nat) (ps : List (List UInt8)) (h : Rds w w.heap.size A c ps) (hn : ps.length ≤ 4096) (hshort : ∀ j, (ps.getD j []).length ≤ 1024) :
    Calls Try.prog 10 #[.slice A ps.length c] w (ResSE w false ps) := by
  have h1 : ¬ (4096 : Int) < (ps.length : Int) := by omega
  have hb := Lib.hid ((Below.refl w.heap.size w).alloc (Nat.le_refl _) (.cells #[.bool false, .slice none 0 0] 28))
  have kk := Lib.hid (heap_alloc_new w (.cells #[.bool false, .slice none 0 0] 28))
  have hs : Sml ps := ⟨by omega, fun j => by have := hshort j; omega⟩
  have hsh := Lib.hid hshort
  clear hshort
  go_enter Try.func10, Try.ntmps10
  go_wp2
  go_loopg [12] ps.length (fun g i wr => ∃ k : Nat, k + g = ps.length ∧ i = .int .i64 k ∧ wr = w.alloc (.cells #[.bool false, .slice none 0 0] 28))
  case atStart => exact ⟨0, by omega, rfl, rfl⟩
  case round =>
    obtain ⟨k, hkg, rfl, rfl⟩ := hrel
    by_cases hk : k < ps.length
    · obtain ⟨b, off, A1, c1, rfl, hlt, hc1, _⟩ := h.at_ hk
      have h2 : ¬ (1024 : Int) < ((ps.getD k []).length : Int) := by have := hsh.out k; omega
      generalize ps.getD k [] = xs at hc1 h2
      go_wp2
      go_roundg (gk - 1)
      case measure => omega
      case rel => exact ⟨k + 1, by omega, by go_num, rfl⟩
    · obtain rfl : k = ps.length := by omega
      have hr := h.belowTop hb.out
      go_wp2_with fail
      refine (ownS_any _ false A c ps hr hs).mono ?_
      rintro e w1 ⟨g, rfl, hn1, hb1⟩
      replace hn1 := Lib.hid (hn1.mono (base' := w.heap.size) hb.out.size)
      have hb2 := Lib.hid (hb.out.trans (hb1.mono hb.out.size))
      have k1 := (hb1.block _ (block_lt kk.out)).trans kk.out
      have d0 := block_at k1 (i := 0) (v := .bool false) rfl
      have d1 := block_at k1 (i := 1) (v := .slice none 0 0) rfl
      have f0 := block_free k1 0
      have f1 := block_free k1 1
      replace k1 := Lib.hid k1
      clear hb1 hr
      go_wp2
      refine bodyPost_ret (results_row_tmp rfl _ _ _ _ _ _ _ rfl (set2 k1.out _ _) Try.underlying28 rfl (by kernel_rfl)) rfl ?_
      exact ⟨g, rfl, hn1.out.stores2 k1.out (by decide) (by decide) _ _, below2 hb2.out (Nat.le_refl _) _ _⟩

end Go.Proofs.Ytjilbgdenolllaa

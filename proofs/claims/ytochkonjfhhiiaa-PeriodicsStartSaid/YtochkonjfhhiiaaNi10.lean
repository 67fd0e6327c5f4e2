/-
  Helper text: Next of transfers under way; no statement is proved here.
-/
import Derived.Test.YtochkonjfhhiiaaNx10
namespace Go.Proofs.Ytochkonjfhhiiaa
open Go Go.RowKit

set_option maxHeartbeats 1600000 in
theorem next10_in (w : World) (cs : Array Value) (endp : Nat) (max : Int) (A : Option Addr) (n c : Nat) (many count : Int) (h : TrAt cs true endp max A n c many count) (hyes : count < many) :
    Calls Try.prog 19 #[.agg cs] w fun e w' => (∃ ys : Array Value, e = .returned (.tuple #[.agg ys, .bool true]) ∧ ys.size = 7 ∧ ys.toList.all (·.oneCell') = true) ∧ Below w.heap.size w w' := by
  obtain ⟨b1, b2, _, b4⟩ := two_boxes w (.cells cs 50) (.cells tryZ 55)
  have KU := under_any ((w.alloc (.cells cs 50)).alloc (.cells tryZ 55)) w.heap.size true A n c many count (block_at b1 h.a0) (block_at b1 h.a3) (block_at b1 h.a4) (block_at b1 h.a5)
  rw [show sizeF true n many = many from rfl, decide_eq_true hyes] at KU
  have h0 := h.a0
  have h1 := h.a1
  have h2 := h.a2
  replace KU := Lib.hid KU
  replace b1 := Lib.hid b1
  replace b2 := Lib.hid b2
  replace b4 := Lib.hid b4
  clear h hyes
  go_enter Try.func19, Try.ntmps19
  go_wp2_with fail
  refine KU.out.mono ?_
  rintro e w' ⟨rfl, k, rfl⟩
  have hQ : (((w.alloc (.cells cs 50)).alloc (.cells tryZ 55)).drewN k).heap[w.heap.size + 1]? = _ := b2.out
  have hT : (((w.alloc (.cells cs 50)).alloc (.cells tryZ 55)).drewN k).heap[w.heap.size]? = _ := b1.out
  have hB := Lib.hid (below_drewN b4.out k)
  have hs : (((w.alloc (.cells cs 50)).alloc (.cells tryZ 55)).drewN k).heap.size = w.heap.size + 2 := by show ((w.alloc _).alloc _).heap.size = _; simp
  generalize ((w.alloc (.cells cs 50)).alloc (.cells tryZ 55)).drewN k = W at hQ hT hB hs ⊢
  have c0 := block_at hT h0
  have c1 := block_at hT h1
  have c2 := block_at hT h2
  have hQa : ∀ X : Obj, (W.alloc X).drew.heap[w.heap.size + 1]? = some (.cells tryZ 55 (0, 0)) := fun X => (Below.heap_alloc W X _ (by omega)).trans hQ
  have hBa : ∀ X : Obj, Below w.heap.size w (W.alloc X).drew := fun X => (hB.out.alloc (by omega) X).drew
  have hsa : ∀ X : Obj, (W.alloc X).drew.heap.size = w.heap.size + 3 := fun X => by show (W.alloc X).heap.size = _; simp [hs]
  replace hQa := Lib.hid hQa
  replace hBa := Lib.hid hBa
  replace hsa := Lib.hid hsa
  clear hQ
  go_wp2_with fail
  go_region
  go_wp2_with (refine wpl_storeB flatY rfl (.tmp 2) (.tmp 30) rfl (w.heap.size + 1) rfl _ rfl (hQa.out _) rfl rfl rfl ?_; intro w2 hQ2 hg2 hs2)
  refine bodyPost_ret (ret_cell_tmp flatY rfl _ (w.heap.size + 1) rfl hQ2 rfl) rfl ?_
  exact ⟨⟨_, rfl, rfl, rfl⟩, below_grown (hBa.out _) hg2 (by rw [hsa.out]; omega) (by omega)⟩

set_option maxHeartbeats 1600000 in
theorem next10_out (w : World) (cs : Array Value) (endp : Nat) (max : Int) (A : Option Addr) (c : Nat) (many : Int) (ps : List (List UInt8)) (h : TrAt cs false endp max A ps.length c many 0) (hyes : 0 < ps.length) (hr : Rds w w.heap.size A c ps) (hss : ∀ j, (ps.getD j []).length ≤ 1000000) :
    Calls Try.prog 19 #[.agg cs] w fun e w' => (∃ ys : Array Value, e = .returned (.tuple #[.agg ys, .bool true]) ∧ ys.size = 7 ∧ ys.toList.all (·.oneCell') = true) ∧ Below w.heap.size w w' := by
  obtain ⟨b1, b2, _, b4⟩ := two_boxes w (.cells cs 50) (.cells tryZ 55)
  have KU := under_any ((w.alloc (.cells cs 50)).alloc (.cells tryZ 55)) w.heap.size false A ps.length c many 0 (block_at b1 h.a0) (block_at b1 h.a3) (block_at b1 h.a4) (block_at b1 h.a5)
  rw [show sizeF false ps.length many = (ps.length : Int) from rfl, decide_eq_true (show (0 : Int) < (ps.length : Int) by omega)] at KU
  have h0 := h.a0
  have h1 := h.a1
  have h3 := h.a3
  have h5 := h.a5
  have hr1 := hr.belowTop b4
  replace KU := Lib.hid KU
  replace b1 := Lib.hid b1
  replace b2 := Lib.hid b2
  replace b4 := Lib.hid b4
  clear h
  go_enter Try.func19, Try.ntmps19
  go_wp2_with fail
  refine KU.out.mono ?_
  rintro e w' ⟨rfl, k, rfl⟩
  have hQ : (((w.alloc (.cells cs 50)).alloc (.cells tryZ 55)).drewN k).heap[w.heap.size + 1]? = _ := b2.out
  have hT : (((w.alloc (.cells cs 50)).alloc (.cells tryZ 55)).drewN k).heap[w.heap.size]? = _ := b1.out
  have hR : Rds (((w.alloc (.cells cs 50)).alloc (.cells tryZ 55)).drewN k) (((w.alloc (.cells cs 50)).alloc (.cells tryZ 55)).drewN k).heap.size A c ps := hr1.keep fun _ _ => rfl
  have hB := Lib.hid (below_drewN b4.out k)
  have hs : (((w.alloc (.cells cs 50)).alloc (.cells tryZ 55)).drewN k).heap.size = w.heap.size + 2 := by show ((w.alloc _).alloc _).heap.size = _; simp
  clear hr1 hr
  generalize ((w.alloc (.cells cs 50)).alloc (.cells tryZ 55)).drewN k = W at hQ hT hB hs hR ⊢
  have c0 := block_at hT h0
  have c1 := block_at hT h1
  have c3 := block_at hT h3
  have c5 := block_at hT h5
  obtain ⟨b, off, A', c', rfl, hbb, hcell, hrd⟩ := hR.at_ hyes
  have hyes2 : (0 : Int) < (ps.length : Int) := by omega
  have hs0 := hss 0
  rw [Nat.add_zero] at hcell
  generalize ps.getD 0 [] = xs at hcell hrd hs0
  have hrd1 := fun X : Obj => (hrd.alloc (Nat.le_refl _) X).more (show W.heap.size ≤ (W.alloc X).heap.size by simp)
  replace hrd1 := Lib.hid hrd1
  clear hrd hR
  replace hQ := Lib.hid hQ
  have hcA : ∀ o : Obj, (W.alloc o).cell? ⟨b, off, none⟩ = some (.slice A' xs.length c') := fun o => (World.cell?_alloc_lt W o ⟨b, off, none⟩ hbb).trans hcell
  have hfz : ∀ o : Obj, (W.alloc o).frozen? ⟨b, off, none⟩ = W.frozen? ⟨b, off, none⟩ := fun o => World.frozen?_alloc_past o b off hbb
  go_wp2_with fail
  refine (own_any _ A' c' xs (hrd1.out _) hs0).mono ?_
  rintro e w3 ⟨v, rfl, hv, hb3⟩
  obtain ⟨A3, rfl, _⟩ := hv
  have hQ3 := (hb3.block (w.heap.size + 1) (by simp; try omega)).trans ((Below.heap_alloc W _ _ (by omega)).trans hQ.out)
  have hN3 : w3.heap[w.heap.size + 2]? = some (.cells #[.int .u8 0, .int .u8 endp, .int .u8 0, .bool false, .bool true, .int .i64 0, .slice none 0 0] 55 (0, 0)) := (hb3.block (w.heap.size + 2) (by simp; try omega)).trans (by rw [← hs]; first | done | exact heap_alloc_new W _)
  have hB3 := (hB.out.alloc (by omega) _).trans (hb3.mono (by simp; try omega))
  have hs3 : w.heap.size + 3 ≤ w3.heap.size := by have := hb3.size; simp at this; (try omega)
  have n0 := block_at (i := 0) hN3 rfl
  have n1 := block_at (i := 1) hN3 rfl
  have n2 := block_at (i := 2) hN3 rfl
  have n2f := block_free hN3 2
  have n3 := block_at (i := 3) hN3 rfl
  have n4 := block_at (i := 4) hN3 rfl
  have n5 := block_at (i := 5) hN3 rfl
  have n6 := block_at (i := 6) hN3 rfl
  have n6f := block_free hN3 6
  have hQ5 : ∀ v v' : Value, ((w3.setCell ⟨w.heap.size + 2, 2, none⟩ v).setCell ⟨w.heap.size + 2, 6, none⟩ v').heap[w.heap.size + 1]? = some (.cells tryZ 55 (0, 0)) := fun v v' => ((Below.heap_setCell _ _ _ _ (fun e => by have := e; simp at this)).trans (Below.heap_setCell _ _ _ _ (fun e => by have := e; simp at this))).trans hQ3
  have hB5 : ∀ v v' : Value, Below w.heap.size w ((w3.setCell ⟨w.heap.size + 2, 2, none⟩ v).setCell ⟨w.heap.size + 2, 6, none⟩ v') := fun v v' => (hB3.setCell (p := ⟨w.heap.size + 2, 2, none⟩) (by show w.heap.size ≤ w.heap.size + 2; omega) v).setCell (p := ⟨w.heap.size + 2, 6, none⟩) (by show w.heap.size ≤ w.heap.size + 2; omega) v'
  have hs5 : ∀ v v' : Value, w.heap.size + 3 ≤ ((w3.setCell ⟨w.heap.size + 2, 2, none⟩ v).setCell ⟨w.heap.size + 2, 6, none⟩ v').heap.size := fun v v' => by simpa using hs3
  replace hN3 := Lib.hid hN3
  replace hQ5 := Lib.hid hQ5
  replace hB5 := Lib.hid hB5
  replace hs5 := Lib.hid hs5
  clear hcA hfz hrd1 hQ hQ3 hB3
  go_wp2_with (refine wpl_storeB flatY rfl (.tmp 2) (.tmp 30) rfl (w.heap.size + 1) rfl _ rfl (hQ5.out _ _) rfl rfl rfl ?_; intro w2 hQ2 hg2 hs2)
  refine bodyPost_ret (ret_cell_tmp flatY rfl _ (w.heap.size + 1) rfl hQ2 rfl) rfl ?_
  exact ⟨⟨_, rfl, rfl, rfl⟩, below_grown (hB5.out _ _) hg2 (by have := hs5.out (.int .u8 1) (.slice A3 xs.length xs.length); omega) (by omega)⟩
end Go.Proofs.Ytochkonjfhhiiaa

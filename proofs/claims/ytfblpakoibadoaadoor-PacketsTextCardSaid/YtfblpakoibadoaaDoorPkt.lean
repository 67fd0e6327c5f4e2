/-
  Helper text: the law file's Packet; no statement is proved here.
-/
import Derived.Test.YtfblpakoibadoaaDoorEncAll
import Derived.Test.YtfblpakoibadoaaDoorStill
namespace Go.Proofs.YtfblpakoibadoaaDoor
open Go Go.RowKit

/-- The identifiers in the law file's order. -/
def pidK (k : Nat) : Nat := [1, 2, 3, 5, 6, 8, 9, 10, 11, 13, 14].getD k 0
abbrev xcells (wt a b fr fl : Nat) (dv : Value) : Array Value := #[.int .u8 (wt : Int), .int .u8 (a : Int), .int .u8 (b : Int), .int .u16 (fr : Int), .int .u8 (fl : Int), dv]
/-- A packet of the law file: with data of the call's own. -/
def ResX (w : World) (r : Rg) (ys : List UInt8) (e : Ending) (w' : World) : Prop :=
  ∃ v, e = .returned (.agg (pcells { r with data := v })) ∧ w'.ownsRow w.heap.size 5 1 v ys.length (ys.map bv) ∧ Below w.heap.size w w'

theorem heap4 (w : World) (o0 o1 o2 o3 : Obj) : ((((w.alloc o0).alloc o1).alloc o2).alloc o3).heap[w.heap.size + 1]? = some o1 := by
  have h1 := heap_alloc2_new w o0 o1
  have h2 := (Below.heap_alloc ((w.alloc o0).alloc o1) o2 _ (lt_of_block h1)).trans h1
  exact (Below.heap_alloc (((w.alloc o0).alloc o1).alloc o2) o3 _ (lt_of_block h2)).trans h2
theorem below4 (w : World) (o0 o1 o2 o3 : Obj) : Below w.heap.size w ((((w.alloc o0).alloc o1).alloc o2).alloc o3) :=
  ((((Below.refl _ w).alloc (Nat.le_refl _) _).alloc (by simp) _).alloc (by simp; omega) _).alloc (by simp; omega) _

set_option maxHeartbeats 1600000 in
set_option maxRecDepth 100000 in
theorem pkt_hs (w : World) (wt a b fr fl k : Nat) (hwt : wt < 256) (A : Option Addr) (n c : Nat) (hk : k = 1 ∨ k = 4 ∨ k = 7 ∨ k = 10) (hwk : (wt : Int).tmod 11 = (k : Int)) (hwk2 : (wt : Int) % 11 = (k : Int)) :
    Calls Tryd.prog 8 #[.agg (xcells wt a b fr fl (.slice A n c))] w (ResX w (bare (pidK k)) []) := by
  simp only [xcells]
  rcases hk with rfl | rfl | rfl | rfl
  · have e1 : (wt : Int).tmod 11 = 1 := hwk
    have e2 : (wt : Int) % 11 = 1 := hwk2
    clear hwk hwk2
    go_enter Tryd.func8, Tryd.ntmps8
    go_wp2
    refine bodyPost_ret (results_cell_row rfl _ _ (w.heap.size + 1) _ _ _ _ rfl (heap4 w _ _ _ _) Tryd.underlying29 rfl (by kernel_rfl)) rfl ?_
    exact ⟨_, rfl, own_nil _ _ _, below4 w _ _ _ _⟩
  · have e1 : (wt : Int).tmod 11 = 4 := hwk
    have e2 : (wt : Int) % 11 = 4 := hwk2
    clear hwk hwk2
    go_enter Tryd.func8, Tryd.ntmps8
    go_wp2
    refine bodyPost_ret (results_cell_row rfl _ _ (w.heap.size + 1) _ _ _ _ rfl (heap4 w _ _ _ _) Tryd.underlying29 rfl (by kernel_rfl)) rfl ?_
    exact ⟨_, rfl, own_nil _ _ _, below4 w _ _ _ _⟩
  · have e1 : (wt : Int).tmod 11 = 7 := hwk
    have e2 : (wt : Int) % 11 = 7 := hwk2
    clear hwk hwk2
    go_enter Tryd.func8, Tryd.ntmps8
    go_wp2
    refine bodyPost_ret (results_cell_row rfl _ _ (w.heap.size + 1) _ _ _ _ rfl (heap4 w _ _ _ _) Tryd.underlying29 rfl (by kernel_rfl)) rfl ?_
    exact ⟨_, rfl, own_nil _ _ _, below4 w _ _ _ _⟩
  · have e1 : (wt : Int).tmod 11 = 10 := hwk
    have e2 : (wt : Int) % 11 = 10 := hwk2
    clear hwk hwk2
    go_enter Tryd.func8, Tryd.ntmps8
    go_wp2
    refine bodyPost_ret (results_cell_row rfl _ _ (w.heap.size + 1) _ _ _ _ rfl (heap4 w _ _ _ _) Tryd.underlying29 rfl (by kernel_rfl)) rfl ?_
    exact ⟨_, rfl, own_nil _ _ _, below4 w _ _ _ _⟩
set_option maxHeartbeats 1600000 in
set_option maxRecDepth 100000 in
theorem pkt_tok (w : World) (wt a b fr fl k : Nat) (hwt : wt < 256) (ha : a < 256) (hb : b < 256) (A : Option Addr) (n c : Nat) (hk : k = 0 ∨ k = 6 ∨ k = 9) (hwk : (wt : Int).tmod 11 = (k : Int)) (hwk2 : (wt : Int) % 11 = (k : Int)) :
    Calls Tryd.prog 8 #[.agg (xcells wt a b fr fl (.slice A n c))] w (ResX w ({ bare (pidK k) with addr := a % 128, endp := b % 16 }) []) := by
  simp only [xcells]
  rcases hk with rfl | rfl | rfl
  · have e1 : (wt : Int).tmod 11 = 0 := hwk
    have e2 : (wt : Int) % 11 = 0 := hwk2
    clear hwk hwk2
    have ha2 := Lib.hid (show (a : Int) % 128 = ((a % 128 : Nat) : Int) by omega)
    have hb2 := Lib.hid (show (b : Int) % 16 = ((b % 16 : Nat) : Int) by omega)
    go_enter Tryd.func8, Tryd.ntmps8
    go_wp2
    go_region
    go_wp2
    refine bodyPost_ret (results_cell_row rfl _ _ (w.heap.size + 1) _ _ _ _ rfl (heap4 w _ _ _ _) Tryd.underlying29 rfl (by kernel_rfl)) rfl ?_
    rw [ha2.out, hb2.out]
    exact ⟨_, rfl, own_nil _ _ _, (below4 w _ _ _ _).drew⟩
  · have e1 : (wt : Int).tmod 11 = 6 := hwk
    have e2 : (wt : Int) % 11 = 6 := hwk2
    clear hwk hwk2
    have ha2 := Lib.hid (show (a : Int) % 128 = ((a % 128 : Nat) : Int) by omega)
    have hb2 := Lib.hid (show (b : Int) % 16 = ((b % 16 : Nat) : Int) by omega)
    go_enter Tryd.func8, Tryd.ntmps8
    go_wp2
    go_region
    go_wp2
    refine bodyPost_ret (results_cell_row rfl _ _ (w.heap.size + 1) _ _ _ _ rfl (heap4 w _ _ _ _) Tryd.underlying29 rfl (by kernel_rfl)) rfl ?_
    rw [ha2.out, hb2.out]
    exact ⟨_, rfl, own_nil _ _ _, (below4 w _ _ _ _).drew⟩
  · have e1 : (wt : Int).tmod 11 = 9 := hwk
    have e2 : (wt : Int) % 11 = 9 := hwk2
    clear hwk hwk2
    have ha2 := Lib.hid (show (a : Int) % 128 = ((a % 128 : Nat) : Int) by omega)
    have hb2 := Lib.hid (show (b : Int) % 16 = ((b % 16 : Nat) : Int) by omega)
    go_enter Tryd.func8, Tryd.ntmps8
    go_wp2
    go_region
    go_wp2
    refine bodyPost_ret (results_cell_row rfl _ _ (w.heap.size + 1) _ _ _ _ rfl (heap4 w _ _ _ _) Tryd.underlying29 rfl (by kernel_rfl)) rfl ?_
    rw [ha2.out, hb2.out]
    exact ⟨_, rfl, own_nil _ _ _, (below4 w _ _ _ _).drew⟩
set_option maxHeartbeats 1600000 in
set_option maxRecDepth 100000 in
theorem pkt_sof (w : World) (wt a b fr fl k : Nat) (hwt : wt < 256) (hfr : fr < 65536) (A : Option Addr) (n c : Nat) (hk : k = 3) (hwk : (wt : Int).tmod 11 = (k : Int)) (hwk2 : (wt : Int) % 11 = (k : Int)) :
    Calls Tryd.prog 8 #[.agg (xcells wt a b fr fl (.slice A n c))] w (ResX w ({ bare (pidK k) with frame := fr % 2048 }) []) := by
  simp only [xcells]
  subst hk
  · have e1 : (wt : Int).tmod 11 = 3 := hwk
    have e2 : (wt : Int) % 11 = 3 := hwk2
    clear hwk hwk2
    have hf2 := Lib.hid (show (fr : Int) % 2048 = ((fr % 2048 : Nat) : Int) by omega)
    go_enter Tryd.func8, Tryd.ntmps8
    go_wp2
    refine bodyPost_ret (results_cell_row rfl _ _ (w.heap.size + 1) _ _ _ _ rfl (heap4 w _ _ _ _) Tryd.underlying29 rfl (by kernel_rfl)) rfl ?_
    rw [hf2.out]
    exact ⟨_, rfl, own_nil _ _ _, below4 w _ _ _ _⟩

end Go.Proofs.YtfblpakoibadoaaDoor

/-
  Helper text: the law file's Packet, splits and data; no statement is proved here.
-/
import Derived.Test.YtfblpakoibadoaaDoorPkt
import Derived.Test.YtfblpakoibadoaaDoorDecD
import Derived.Test.YtfblpakoibadoaaDoorCkCheck
namespace Go.Proofs.YtfblpakoibadoaaDoor
open Go Go.RowKit

theorem free_at {w : World} {B : Nat} {cs : Array Value} {t : TypeId} (h : w.heap[B]? = some (.cells cs t (0, 0))) (i : Nat) : w.frozen? ⟨B, i, none⟩ = false := by
  simp [World.frozen?, h]

theorem data_pack {w W5 w5 : World} {b1 b3 t : Nat} {c1 c3 : Array Value} {v5 : Value} {xs : List UInt8} (hR : Hid (W5.heap[b1]? = some (.cells c1 t (0, 0)))) (hP : Hid (W5.heap[b3]? = some (.cells c3 t (0, 0)))) (hB : Hid (Below w.heap.size w W5))
    (ho : w5.ownsRow W5.heap.size 5 1 v5 ([] ++ xs).length (([] ++ xs).map bv)) (hb : Below W5.heap.size W5 w5) :
    ∃ A5 k5, v5 = .slice A5 xs.length k5 ∧ (∀ i, w5.cell? ⟨b1, i, none⟩ = c1[i]?) ∧ (∀ i, w5.cell? ⟨b3, i, none⟩ = c3[i]?) ∧ (∀ i, w5.frozen? ⟨b1, i, none⟩ = false) ∧ (∀ i, w5.frozen? ⟨b3, i, none⟩ = false) ∧
      Hid (w5.heap[b1]? = some (.cells c1 t (0, 0))) ∧ Hid (b1 < W5.heap.size ∧ b3 < W5.heap.size ∧ w5.ownsRow W5.heap.size 5 1 (.slice A5 xs.length k5) xs.length (xs.map bv)) ∧ Hid (Below w.heap.size w w5) := by
  obtain ⟨A5, k5, rfl, _⟩ := Rd.of_own ho
  have h1 := (hb.block _ (lt_of_block hR.out)).trans hR.out
  have h3 := (hb.block _ (lt_of_block hP.out)).trans hP.out
  exact ⟨A5, k5, rfl, fun i => cell_at h1 i, fun i => cell_at h3 i, fun i => free_at h1 i, fun i => free_at h3 i, h1, ⟨lt_of_block hR.out, lt_of_block hP.out, ho⟩, hB.out.trans (hb.mono hB.out.size)⟩

set_option maxHeartbeats 1600000 in
set_option maxRecDepth 100000 in
theorem pkt_split (w : World) (wt a b fr fl k : Nat) (hwt : wt < 256) (ha : a < 256) (hb : b < 256) (hfl : fl < 256) (A : Option Addr) (n c : Nat) (hk : k = 5) (hwk : (wt : Int).tmod 11 = (k : Int)) (hwk2 : (wt : Int) % 11 = (k : Int)) :
    Calls Tryd.prog 8 #[.agg (xcells wt a b fr fl (.slice A n c))] w (ResX w ({ bare (pidK k) with hub := a % 128, port := b % 128, comp := (fl &&& 1 == 1), low := (fl &&& 2 == 2), kind := fl / 4 % 4 }) []) := by
  simp only [xcells]
  subst hk
  · have e1 : (wt : Int).tmod 11 = 5 := hwk
    have e2 : (wt : Int) % 11 = 5 := hwk2
    clear hwk hwk2
    have ha2 := Lib.hid (show (a : Int) % 128 = ((a % 128 : Nat) : Int) by omega)
    have hb2 := Lib.hid (show (b : Int) % 128 = ((b % 128 : Nat) : Int) by omega)
    have m1 : bits .and .u8 (fl : Int) 1 = ((fl &&& 1 : Nat) : Int) := Ck.band8 (b := 1) hfl (by decide)
    have m2 : bits .and .u8 (fl : Int) 2 = ((fl &&& 2 : Nat) : Int) := Ck.band8 (b := 2) hfl (by decide)
    have q1 := Lib.hid (show (((fl &&& 1 : Nat) : Int) == 1) = (fl &&& 1 == 1) from castEq _ 1)
    have q2 := Lib.hid (show (((fl &&& 2 : Nat) : Int) == 2) = (fl &&& 2 == 2) from castEq _ 2)
    have q3 := Lib.hid (show (fl : Int) / 4 % 4 = ((fl / 4 % 4 : Nat) : Int) by omega)
    generalize hx1 : fl &&& 1 = x1 at m1 q1
    generalize hx2 : fl &&& 2 = x2 at m2 q2
    have hx1 := Lib.hid hx1
    have hx2 := Lib.hid hx2
    go_enter Tryd.func8, Tryd.ntmps8
    go_wp2
    refine bodyPost_ret (results_cell_row rfl _ _ (w.heap.size + 1) _ _ _ _ rfl (heap4 w _ _ _ _) Tryd.underlying29 rfl (by kernel_rfl)) rfl ?_
    rw [ha2.out, hb2.out, q1.out, q2.out, q3.out]
    exact ⟨_, rfl, own_nil _ _ _, below4 w _ _ _ _⟩
set_option maxHeartbeats 1600000 in
set_option maxRecDepth 100000 in
theorem pkt_data (w : World) (wt a b fr fl k : Nat) (hwt : wt < 256) (A : Option Addr) (c : Nat) (xs : List UInt8) (hx : Rd w w.heap.size A c xs) (hl : xs.length ≤ 1024) (hk : k = 2 ∨ k = 8) (hwk : (wt : Int).tmod 11 = (k : Int)) (hwk2 : (wt : Int) % 11 = (k : Int)) :
    Calls Tryd.prog 8 #[.agg (xcells wt a b fr fl (.slice A xs.length c))] w (ResX w (bare (pidK k)) xs) := by
  simp only [xcells]
  rcases hk with rfl | rfl
  · have e1 : (wt : Int).tmod 11 = 2 := hwk
    have e2 : (wt : Int) % 11 = 2 := hwk2
    clear hwk hwk2
    have h1 : ¬ (1024 : Int) < (xs.length : Int) := by omega
    have hle := hx.le
    have hsl := fun W : World => Ck.slice_h A xs.length c (xs.length : Int) W (by omega) (by omega)
    simp only [Int.toNat_natCast] at hsl
    have hslh := Lib.hid hsl
    clear hsl
    have hR := Lib.hid (heap4 w (.cells #[.int .u8 (wt : Int), .int .u8 (a : Int), .int .u8 (b : Int), .int .u16 (fr : Int), .int .u8 (fl : Int), .slice A xs.length c] 34) (.cells #[.int .u8 0, .int .u8 0, .int .u8 0, .int .u16 0, .int .u8 0, .int .u8 0, .bool false, .bool false, .int .u8 0, .slice none 0 0] 29) (.cells #[.int .u8 1, .int .u8 2, .int .u8 3, .int .u8 5, .int .u8 6, .int .u8 8, .int .u8 9, .int .u8 10, .int .u8 11, .int .u8 13, .int .u8 14] 22) (.cells #[.int .u8 3, .int .u8 0, .int .u8 0, .int .u16 0, .int .u8 0, .int .u8 0, .bool false, .bool false, .int .u8 0, .slice none 0 0] 29))
    have hB := Lib.hid (below4 w (.cells #[.int .u8 (wt : Int), .int .u8 (a : Int), .int .u8 (b : Int), .int .u16 (fr : Int), .int .u8 (fl : Int), .slice A xs.length c] 34) (.cells #[.int .u8 0, .int .u8 0, .int .u8 0, .int .u16 0, .int .u8 0, .int .u8 0, .bool false, .bool false, .int .u8 0, .slice none 0 0] 29) (.cells #[.int .u8 1, .int .u8 2, .int .u8 3, .int .u8 5, .int .u8 6, .int .u8 8, .int .u8 9, .int .u8 10, .int .u8 11, .int .u8 13, .int .u8 14] 22) (.cells #[.int .u8 3, .int .u8 0, .int .u8 0, .int .u16 0, .int .u8 0, .int .u8 0, .bool false, .bool false, .int .u8 0, .slice none 0 0] 29))
    have hP : Hid (((((w.alloc (.cells #[.int .u8 (wt : Int), .int .u8 (a : Int), .int .u8 (b : Int), .int .u16 (fr : Int), .int .u8 (fl : Int), .slice A xs.length c] 34)).alloc (.cells #[.int .u8 0, .int .u8 0, .int .u8 0, .int .u16 0, .int .u8 0, .int .u8 0, .bool false, .bool false, .int .u8 0, .slice none 0 0] 29)).alloc (.cells #[.int .u8 1, .int .u8 2, .int .u8 3, .int .u8 5, .int .u8 6, .int .u8 8, .int .u8 9, .int .u8 10, .int .u8 11, .int .u8 13, .int .u8 14] 22)).alloc (.cells #[.int .u8 3, .int .u8 0, .int .u8 0, .int .u16 0, .int .u8 0, .int .u8 0, .bool false, .bool false, .int .u8 0, .slice none 0 0] 29)).heap[w.heap.size + 1 + 1 + 1]? = some (.cells #[.int .u8 3, .int .u8 0, .int .u8 0, .int .u16 0, .int .u8 0, .int .u8 0, .bool false, .bool false, .int .u8 0, .slice none 0 0] 29)) := by
      have := heap_alloc_new (((w.alloc (.cells #[.int .u8 (wt : Int), .int .u8 (a : Int), .int .u8 (b : Int), .int .u16 (fr : Int), .int .u8 (fl : Int), .slice A xs.length c] 34)).alloc (.cells #[.int .u8 0, .int .u8 0, .int .u8 0, .int .u16 0, .int .u8 0, .int .u8 0, .bool false, .bool false, .int .u8 0, .slice none 0 0] 29)).alloc (.cells #[.int .u8 1, .int .u8 2, .int .u8 3, .int .u8 5, .int .u8 6, .int .u8 8, .int .u8 9, .int .u8 10, .int .u8 11, .int .u8 13, .int .u8 14] 22)) (.cells #[.int .u8 3, .int .u8 0, .int .u8 0, .int .u16 0, .int .u8 0, .int .u8 0, .bool false, .bool false, .int .u8 0, .slice none 0 0] 29)
      rw [show (((w.alloc (.cells #[.int .u8 (wt : Int), .int .u8 (a : Int), .int .u8 (b : Int), .int .u16 (fr : Int), .int .u8 (fl : Int), .slice A xs.length c] 34)).alloc (.cells #[.int .u8 0, .int .u8 0, .int .u8 0, .int .u16 0, .int .u8 0, .int .u8 0, .bool false, .bool false, .int .u8 0, .slice none 0 0] 29)).alloc (.cells #[.int .u8 1, .int .u8 2, .int .u8 3, .int .u8 5, .int .u8 6, .int .u8 8, .int .u8 9, .int .u8 10, .int .u8 11, .int .u8 13, .int .u8 14] 22)).heap.size = w.heap.size + 1 + 1 + 1 by simp] at this
      exact this
    have hrd := Lib.hid (hx.belowTop (below4 w (.cells #[.int .u8 (wt : Int), .int .u8 (a : Int), .int .u8 (b : Int), .int .u16 (fr : Int), .int .u8 (fl : Int), .slice A xs.length c] 34) (.cells #[.int .u8 0, .int .u8 0, .int .u8 0, .int .u16 0, .int .u8 0, .int .u8 0, .bool false, .bool false, .int .u8 0, .slice none 0 0] 29) (.cells #[.int .u8 1, .int .u8 2, .int .u8 3, .int .u8 5, .int .u8 6, .int .u8 8, .int .u8 9, .int .u8 10, .int .u8 11, .int .u8 13, .int .u8 14] 22) (.cells #[.int .u8 3, .int .u8 0, .int .u8 0, .int .u16 0, .int .u8 0, .int .u8 0, .bool false, .bool false, .int .u8 0, .slice none 0 0] 29)))
    have c5 : ((((w.alloc (.cells #[.int .u8 (wt : Int), .int .u8 (a : Int), .int .u8 (b : Int), .int .u16 (fr : Int), .int .u8 (fl : Int), .slice A xs.length c] 34)).alloc (.cells #[.int .u8 0, .int .u8 0, .int .u8 0, .int .u16 0, .int .u8 0, .int .u8 0, .bool false, .bool false, .int .u8 0, .slice none 0 0] 29)).alloc (.cells #[.int .u8 1, .int .u8 2, .int .u8 3, .int .u8 5, .int .u8 6, .int .u8 8, .int .u8 9, .int .u8 10, .int .u8 11, .int .u8 13, .int .u8 14] 22)).alloc (.cells #[.int .u8 3, .int .u8 0, .int .u8 0, .int .u16 0, .int .u8 0, .int .u8 0, .bool false, .bool false, .int .u8 0, .slice none 0 0] 29)).cell? ⟨w.heap.size, 5, none⟩ = some (.slice A xs.length c) := by
      have h3 := heap_alloc_new w (.cells #[.int .u8 (wt : Int), .int .u8 (a : Int), .int .u8 (b : Int), .int .u16 (fr : Int), .int .u8 (fl : Int), .slice A xs.length c] 34)
      have h4 := (Below.heap_alloc _ (.cells #[.int .u8 0, .int .u8 0, .int .u8 0, .int .u16 0, .int .u8 0, .int .u8 0, .bool false, .bool false, .int .u8 0, .slice none 0 0] 29) _ (lt_of_block h3)).trans h3
      have h5 := (Below.heap_alloc _ (.cells #[.int .u8 1, .int .u8 2, .int .u8 3, .int .u8 5, .int .u8 6, .int .u8 8, .int .u8 9, .int .u8 10, .int .u8 11, .int .u8 13, .int .u8 14] 22) _ (lt_of_block h4)).trans h4
      have h6 := (Below.heap_alloc _ (.cells #[.int .u8 3, .int .u8 0, .int .u8 0, .int .u16 0, .int .u8 0, .int .u8 0, .bool false, .bool false, .int .u8 0, .slice none 0 0] 29) _ (lt_of_block h5)).trans h5
      exact cell_at h6 5
    clear hx
    go_enter Tryd.func8, Tryd.ntmps8
    go_wp2
    refine wp_region_still_tail 6 (by kernel_rfl) (by kernel_rfl) ?_
    simp only [List.take_succ_cons, List.take_zero, List.drop_succ_cons, List.drop_zero]
    change wpStill _ _ (World.drew ((((w.alloc (.cells #[.int .u8 (wt : Int), .int .u8 (a : Int), .int .u8 (b : Int), .int .u16 (fr : Int), .int .u8 (fl : Int), .slice A xs.length c] 34)).alloc (.cells #[.int .u8 0, .int .u8 0, .int .u8 0, .int .u16 0, .int .u8 0, .int .u8 0, .bool false, .bool false, .int .u8 0, .slice none 0 0] 29)).alloc (.cells #[.int .u8 1, .int .u8 2, .int .u8 3, .int .u8 5, .int .u8 6, .int .u8 8, .int .u8 9, .int .u8 10, .int .u8 11, .int .u8 13, .int .u8 14] 22)).alloc (.cells #[.int .u8 3, .int .u8 0, .int .u8 0, .int .u16 0, .int .u8 0, .int .u8 0, .bool false, .bool false, .int .u8 0, .slice none 0 0] 29))) (fun a' => wpList _ _ _ _ a' (World.drew ((((w.alloc (.cells #[.int .u8 (wt : Int), .int .u8 (a : Int), .int .u8 (b : Int), .int .u16 (fr : Int), .int .u8 (fl : Int), .slice A xs.length c] 34)).alloc (.cells #[.int .u8 0, .int .u8 0, .int .u8 0, .int .u16 0, .int .u8 0, .int .u8 0, .bool false, .bool false, .int .u8 0, .slice none 0 0] 29)).alloc (.cells #[.int .u8 1, .int .u8 2, .int .u8 3, .int .u8 5, .int .u8 6, .int .u8 8, .int .u8 9, .int .u8 10, .int .u8 11, .int .u8 13, .int .u8 14] 22)).alloc (.cells #[.int .u8 3, .int .u8 0, .int .u8 0, .int .u16 0, .int .u8 0, .int .u8 0, .bool false, .bool false, .int .u8 0, .slice none 0 0] 29)))) _ _
    replace hR : Hid ((World.drew ((((w.alloc (.cells #[.int .u8 (wt : Int), .int .u8 (a : Int), .int .u8 (b : Int), .int .u16 (fr : Int), .int .u8 (fl : Int), .slice A xs.length c] 34)).alloc (.cells #[.int .u8 0, .int .u8 0, .int .u8 0, .int .u16 0, .int .u8 0, .int .u8 0, .bool false, .bool false, .int .u8 0, .slice none 0 0] 29)).alloc (.cells #[.int .u8 1, .int .u8 2, .int .u8 3, .int .u8 5, .int .u8 6, .int .u8 8, .int .u8 9, .int .u8 10, .int .u8 11, .int .u8 13, .int .u8 14] 22)).alloc (.cells #[.int .u8 3, .int .u8 0, .int .u8 0, .int .u16 0, .int .u8 0, .int .u8 0, .bool false, .bool false, .int .u8 0, .slice none 0 0] 29))).heap[w.heap.size + 1]? = some (.cells #[.int .u8 0, .int .u8 0, .int .u8 0, .int .u16 0, .int .u8 0, .int .u8 0, .bool false, .bool false, .int .u8 0, .slice none 0 0] 29)) := hR
    replace hP : Hid ((World.drew ((((w.alloc (.cells #[.int .u8 (wt : Int), .int .u8 (a : Int), .int .u8 (b : Int), .int .u16 (fr : Int), .int .u8 (fl : Int), .slice A xs.length c] 34)).alloc (.cells #[.int .u8 0, .int .u8 0, .int .u8 0, .int .u16 0, .int .u8 0, .int .u8 0, .bool false, .bool false, .int .u8 0, .slice none 0 0] 29)).alloc (.cells #[.int .u8 1, .int .u8 2, .int .u8 3, .int .u8 5, .int .u8 6, .int .u8 8, .int .u8 9, .int .u8 10, .int .u8 11, .int .u8 13, .int .u8 14] 22)).alloc (.cells #[.int .u8 3, .int .u8 0, .int .u8 0, .int .u16 0, .int .u8 0, .int .u8 0, .bool false, .bool false, .int .u8 0, .slice none 0 0] 29))).heap[w.heap.size + 1 + 1 + 1]? = some (.cells #[.int .u8 3, .int .u8 0, .int .u8 0, .int .u16 0, .int .u8 0, .int .u8 0, .bool false, .bool false, .int .u8 0, .slice none 0 0] 29)) := hP
    replace c5 : (World.drew ((((w.alloc (.cells #[.int .u8 (wt : Int), .int .u8 (a : Int), .int .u8 (b : Int), .int .u16 (fr : Int), .int .u8 (fl : Int), .slice A xs.length c] 34)).alloc (.cells #[.int .u8 0, .int .u8 0, .int .u8 0, .int .u16 0, .int .u8 0, .int .u8 0, .bool false, .bool false, .int .u8 0, .slice none 0 0] 29)).alloc (.cells #[.int .u8 1, .int .u8 2, .int .u8 3, .int .u8 5, .int .u8 6, .int .u8 8, .int .u8 9, .int .u8 10, .int .u8 11, .int .u8 13, .int .u8 14] 22)).alloc (.cells #[.int .u8 3, .int .u8 0, .int .u8 0, .int .u16 0, .int .u8 0, .int .u8 0, .bool false, .bool false, .int .u8 0, .slice none 0 0] 29))).cell? ⟨w.heap.size, 5, none⟩ = some (.slice A xs.length c) := c5
    have hB2 := Lib.hid hB.out.drew
    have hrd2 := Lib.hid hrd.out.drew
    clear hB hrd
    have hl9 : (World.drew ((((w.alloc (.cells #[.int .u8 (wt : Int), .int .u8 (a : Int), .int .u8 (b : Int), .int .u16 (fr : Int), .int .u8 (fl : Int), .slice A xs.length c] 34)).alloc (.cells #[.int .u8 0, .int .u8 0, .int .u8 0, .int .u16 0, .int .u8 0, .int .u8 0, .bool false, .bool false, .int .u8 0, .slice none 0 0] 29)).alloc (.cells #[.int .u8 1, .int .u8 2, .int .u8 3, .int .u8 5, .int .u8 6, .int .u8 8, .int .u8 9, .int .u8 10, .int .u8 11, .int .u8 13, .int .u8 14] 22)).alloc (.cells #[.int .u8 3, .int .u8 0, .int .u8 0, .int .u16 0, .int .u8 0, .int .u8 0, .bool false, .bool false, .int .u8 0, .slice none 0 0] 29))).cell? ⟨w.heap.size + 1 + 1 + 1, 9, none⟩ = some (.slice none 0 0) := cell_at hP.out 9
    replace hrd2 : Hid (Rd (World.drew ((((w.alloc (.cells #[.int .u8 (wt : Int), .int .u8 (a : Int), .int .u8 (b : Int), .int .u16 (fr : Int), .int .u8 (fl : Int), .slice A xs.length c] 34)).alloc (.cells #[.int .u8 0, .int .u8 0, .int .u8 0, .int .u16 0, .int .u8 0, .int .u8 0, .bool false, .bool false, .int .u8 0, .slice none 0 0] 29)).alloc (.cells #[.int .u8 1, .int .u8 2, .int .u8 3, .int .u8 5, .int .u8 6, .int .u8 8, .int .u8 9, .int .u8 10, .int .u8 11, .int .u8 13, .int .u8 14] 22)).alloc (.cells #[.int .u8 3, .int .u8 0, .int .u8 0, .int .u16 0, .int .u8 0, .int .u8 0, .bool false, .bool false, .int .u8 0, .slice none 0 0] 29))) (World.drew ((((w.alloc (.cells #[.int .u8 (wt : Int), .int .u8 (a : Int), .int .u8 (b : Int), .int .u16 (fr : Int), .int .u8 (fl : Int), .slice A xs.length c] 34)).alloc (.cells #[.int .u8 0, .int .u8 0, .int .u8 0, .int .u16 0, .int .u8 0, .int .u8 0, .bool false, .bool false, .int .u8 0, .slice none 0 0] 29)).alloc (.cells #[.int .u8 1, .int .u8 2, .int .u8 3, .int .u8 5, .int .u8 6, .int .u8 8, .int .u8 9, .int .u8 10, .int .u8 11, .int .u8 13, .int .u8 14] 22)).alloc (.cells #[.int .u8 3, .int .u8 0, .int .u8 0, .int .u16 0, .int .u8 0, .int .u8 0, .bool false, .bool false, .int .u8 0, .slice none 0 0] 29))).heap.size A c xs) := hrd2
    generalize World.drew ((((w.alloc (.cells #[.int .u8 (wt : Int), .int .u8 (a : Int), .int .u8 (b : Int), .int .u16 (fr : Int), .int .u8 (fl : Int), .slice A xs.length c] 34)).alloc (.cells #[.int .u8 0, .int .u8 0, .int .u8 0, .int .u16 0, .int .u8 0, .int .u8 0, .bool false, .bool false, .int .u8 0, .slice none 0 0] 29)).alloc (.cells #[.int .u8 1, .int .u8 2, .int .u8 3, .int .u8 5, .int .u8 6, .int .u8 8, .int .u8 9, .int .u8 10, .int .u8 11, .int .u8 13, .int .u8 14] 22)).alloc (.cells #[.int .u8 3, .int .u8 0, .int .u8 0, .int .u16 0, .int .u8 0, .int .u8 0, .bool false, .bool false, .int .u8 0, .slice none 0 0] 29)) = W5 at hR hP hB2 hrd2 c5 hl9 ⊢
    have hsl := hslh.out
    still_step
    still_step
    still_step
    still_step
    still_step
    still_step
    refine wpStill_nil ?_
    clear hsl c5 hl9
    have ne1 : w.heap.size + 1 + 1 + 1 ≠ w.heap.size + 1 := by omega
    have ne2 : w.heap.size + 1 ≠ w.heap.size + 1 + 1 + 1 := by omega
    go_wp2_with (at_builtin; refine wpl_appendN Tryd.underlying27 Ck.Tryd.info5 rfl (.tmp 68) (.tmp 72) rfl W5.heap.size (.slice none 0 0) [] rfl (own_nil _ _ _) W5.heap.size c A xs hrd2.out rfl (Nat.le_trans (Nat.le_of_eq (Nat.zero_add _)) (Nat.le_trans hl (by decide))) (Nat.le_refl _) ?_; intro v5 w5 hown5 hb5; obtain ⟨A5, k5, rfl, rr, ll, fr1, fr2, hR5, hown6, hbf⟩ := data_pack hR hP hB2 hown5 hb5; clear hR hP hB2 hrd2 hb5 hown5)
    have hw := Lib.hid (Nat.le_of_lt (Nat.lt_trans (Nat.lt_succ_self w.heap.size) hown6.out.1))
    have hR6 := Lib.hid ((Below.heap_setCell w5 ⟨w.heap.size + 1 + 1 + 1, 9, none⟩ (.slice A5 xs.length k5) (w.heap.size + 1) (fun e => ne2 e)).trans hR5.out)
    refine bodyPost_ret (results_cell_row rfl _ _ (w.heap.size + 1) _ _ _ _ rfl (store10 _ _ _ _ _ _ _ _ _ _ _ _ _ _ _ _ _ _ _ _ hR6.out) Tryd.underlying29 rfl (by kernel_rfl)) rfl ?_
    exact ⟨_, rfl, own_base (own_grown (own_grown hown6.out.2.2 (grown_store w5 (w.heap.size + 1 + 1 + 1) 9 _) hown6.out.2.1) (grown10 _ (w.heap.size + 1) _ _ _ _ _ _ _ _ _ _) hown6.out.1) hw.out, below10 _ _ _ _ _ _ _ _ _ _ (Below.setCell (p := ⟨w.heap.size + 1 + 1 + 1, 9, none⟩) hbf.out (Nat.le_trans (Nat.le_succ _) (Nat.le_trans (Nat.le_succ _) (Nat.le_succ _))) _) (Nat.le_succ _)⟩
  · have e1 : (wt : Int).tmod 11 = 8 := hwk
    have e2 : (wt : Int) % 11 = 8 := hwk2
    clear hwk hwk2
    have h1 : ¬ (1024 : Int) < (xs.length : Int) := by omega
    have hle := hx.le
    have hsl := fun W : World => Ck.slice_h A xs.length c (xs.length : Int) W (by omega) (by omega)
    simp only [Int.toNat_natCast] at hsl
    have hslh := Lib.hid hsl
    clear hsl
    have hR := Lib.hid (heap4 w (.cells #[.int .u8 (wt : Int), .int .u8 (a : Int), .int .u8 (b : Int), .int .u16 (fr : Int), .int .u8 (fl : Int), .slice A xs.length c] 34) (.cells #[.int .u8 0, .int .u8 0, .int .u8 0, .int .u16 0, .int .u8 0, .int .u8 0, .bool false, .bool false, .int .u8 0, .slice none 0 0] 29) (.cells #[.int .u8 1, .int .u8 2, .int .u8 3, .int .u8 5, .int .u8 6, .int .u8 8, .int .u8 9, .int .u8 10, .int .u8 11, .int .u8 13, .int .u8 14] 22) (.cells #[.int .u8 11, .int .u8 0, .int .u8 0, .int .u16 0, .int .u8 0, .int .u8 0, .bool false, .bool false, .int .u8 0, .slice none 0 0] 29))
    have hB := Lib.hid (below4 w (.cells #[.int .u8 (wt : Int), .int .u8 (a : Int), .int .u8 (b : Int), .int .u16 (fr : Int), .int .u8 (fl : Int), .slice A xs.length c] 34) (.cells #[.int .u8 0, .int .u8 0, .int .u8 0, .int .u16 0, .int .u8 0, .int .u8 0, .bool false, .bool false, .int .u8 0, .slice none 0 0] 29) (.cells #[.int .u8 1, .int .u8 2, .int .u8 3, .int .u8 5, .int .u8 6, .int .u8 8, .int .u8 9, .int .u8 10, .int .u8 11, .int .u8 13, .int .u8 14] 22) (.cells #[.int .u8 11, .int .u8 0, .int .u8 0, .int .u16 0, .int .u8 0, .int .u8 0, .bool false, .bool false, .int .u8 0, .slice none 0 0] 29))
    have hP : Hid (((((w.alloc (.cells #[.int .u8 (wt : Int), .int .u8 (a : Int), .int .u8 (b : Int), .int .u16 (fr : Int), .int .u8 (fl : Int), .slice A xs.length c] 34)).alloc (.cells #[.int .u8 0, .int .u8 0, .int .u8 0, .int .u16 0, .int .u8 0, .int .u8 0, .bool false, .bool false, .int .u8 0, .slice none 0 0] 29)).alloc (.cells #[.int .u8 1, .int .u8 2, .int .u8 3, .int .u8 5, .int .u8 6, .int .u8 8, .int .u8 9, .int .u8 10, .int .u8 11, .int .u8 13, .int .u8 14] 22)).alloc (.cells #[.int .u8 11, .int .u8 0, .int .u8 0, .int .u16 0, .int .u8 0, .int .u8 0, .bool false, .bool false, .int .u8 0, .slice none 0 0] 29)).heap[w.heap.size + 1 + 1 + 1]? = some (.cells #[.int .u8 11, .int .u8 0, .int .u8 0, .int .u16 0, .int .u8 0, .int .u8 0, .bool false, .bool false, .int .u8 0, .slice none 0 0] 29)) := by
      have := heap_alloc_new (((w.alloc (.cells #[.int .u8 (wt : Int), .int .u8 (a : Int), .int .u8 (b : Int), .int .u16 (fr : Int), .int .u8 (fl : Int), .slice A xs.length c] 34)).alloc (.cells #[.int .u8 0, .int .u8 0, .int .u8 0, .int .u16 0, .int .u8 0, .int .u8 0, .bool false, .bool false, .int .u8 0, .slice none 0 0] 29)).alloc (.cells #[.int .u8 1, .int .u8 2, .int .u8 3, .int .u8 5, .int .u8 6, .int .u8 8, .int .u8 9, .int .u8 10, .int .u8 11, .int .u8 13, .int .u8 14] 22)) (.cells #[.int .u8 11, .int .u8 0, .int .u8 0, .int .u16 0, .int .u8 0, .int .u8 0, .bool false, .bool false, .int .u8 0, .slice none 0 0] 29)
      rw [show (((w.alloc (.cells #[.int .u8 (wt : Int), .int .u8 (a : Int), .int .u8 (b : Int), .int .u16 (fr : Int), .int .u8 (fl : Int), .slice A xs.length c] 34)).alloc (.cells #[.int .u8 0, .int .u8 0, .int .u8 0, .int .u16 0, .int .u8 0, .int .u8 0, .bool false, .bool false, .int .u8 0, .slice none 0 0] 29)).alloc (.cells #[.int .u8 1, .int .u8 2, .int .u8 3, .int .u8 5, .int .u8 6, .int .u8 8, .int .u8 9, .int .u8 10, .int .u8 11, .int .u8 13, .int .u8 14] 22)).heap.size = w.heap.size + 1 + 1 + 1 by simp] at this
      exact this
    have hrd := Lib.hid (hx.belowTop (below4 w (.cells #[.int .u8 (wt : Int), .int .u8 (a : Int), .int .u8 (b : Int), .int .u16 (fr : Int), .int .u8 (fl : Int), .slice A xs.length c] 34) (.cells #[.int .u8 0, .int .u8 0, .int .u8 0, .int .u16 0, .int .u8 0, .int .u8 0, .bool false, .bool false, .int .u8 0, .slice none 0 0] 29) (.cells #[.int .u8 1, .int .u8 2, .int .u8 3, .int .u8 5, .int .u8 6, .int .u8 8, .int .u8 9, .int .u8 10, .int .u8 11, .int .u8 13, .int .u8 14] 22) (.cells #[.int .u8 11, .int .u8 0, .int .u8 0, .int .u16 0, .int .u8 0, .int .u8 0, .bool false, .bool false, .int .u8 0, .slice none 0 0] 29)))
    have c5 : ((((w.alloc (.cells #[.int .u8 (wt : Int), .int .u8 (a : Int), .int .u8 (b : Int), .int .u16 (fr : Int), .int .u8 (fl : Int), .slice A xs.length c] 34)).alloc (.cells #[.int .u8 0, .int .u8 0, .int .u8 0, .int .u16 0, .int .u8 0, .int .u8 0, .bool false, .bool false, .int .u8 0, .slice none 0 0] 29)).alloc (.cells #[.int .u8 1, .int .u8 2, .int .u8 3, .int .u8 5, .int .u8 6, .int .u8 8, .int .u8 9, .int .u8 10, .int .u8 11, .int .u8 13, .int .u8 14] 22)).alloc (.cells #[.int .u8 11, .int .u8 0, .int .u8 0, .int .u16 0, .int .u8 0, .int .u8 0, .bool false, .bool false, .int .u8 0, .slice none 0 0] 29)).cell? ⟨w.heap.size, 5, none⟩ = some (.slice A xs.length c) := by
      have h3 := heap_alloc_new w (.cells #[.int .u8 (wt : Int), .int .u8 (a : Int), .int .u8 (b : Int), .int .u16 (fr : Int), .int .u8 (fl : Int), .slice A xs.length c] 34)
      have h4 := (Below.heap_alloc _ (.cells #[.int .u8 0, .int .u8 0, .int .u8 0, .int .u16 0, .int .u8 0, .int .u8 0, .bool false, .bool false, .int .u8 0, .slice none 0 0] 29) _ (lt_of_block h3)).trans h3
      have h5 := (Below.heap_alloc _ (.cells #[.int .u8 1, .int .u8 2, .int .u8 3, .int .u8 5, .int .u8 6, .int .u8 8, .int .u8 9, .int .u8 10, .int .u8 11, .int .u8 13, .int .u8 14] 22) _ (lt_of_block h4)).trans h4
      have h6 := (Below.heap_alloc _ (.cells #[.int .u8 11, .int .u8 0, .int .u8 0, .int .u16 0, .int .u8 0, .int .u8 0, .bool false, .bool false, .int .u8 0, .slice none 0 0] 29) _ (lt_of_block h5)).trans h5
      exact cell_at h6 5
    clear hx
    go_enter Tryd.func8, Tryd.ntmps8
    go_wp2
    refine wp_region_still_tail 6 (by kernel_rfl) (by kernel_rfl) ?_
    simp only [List.take_succ_cons, List.take_zero, List.drop_succ_cons, List.drop_zero]
    change wpStill _ _ (World.drew ((((w.alloc (.cells #[.int .u8 (wt : Int), .int .u8 (a : Int), .int .u8 (b : Int), .int .u16 (fr : Int), .int .u8 (fl : Int), .slice A xs.length c] 34)).alloc (.cells #[.int .u8 0, .int .u8 0, .int .u8 0, .int .u16 0, .int .u8 0, .int .u8 0, .bool false, .bool false, .int .u8 0, .slice none 0 0] 29)).alloc (.cells #[.int .u8 1, .int .u8 2, .int .u8 3, .int .u8 5, .int .u8 6, .int .u8 8, .int .u8 9, .int .u8 10, .int .u8 11, .int .u8 13, .int .u8 14] 22)).alloc (.cells #[.int .u8 11, .int .u8 0, .int .u8 0, .int .u16 0, .int .u8 0, .int .u8 0, .bool false, .bool false, .int .u8 0, .slice none 0 0] 29))) (fun a' => wpList _ _ _ _ a' (World.drew ((((w.alloc (.cells #[.int .u8 (wt : Int), .int .u8 (a : Int), .int .u8 (b : Int), .int .u16 (fr : Int), .int .u8 (fl : Int), .slice A xs.length c] 34)).alloc (.cells #[.int .u8 0, .int .u8 0, .int .u8 0, .int .u16 0, .int .u8 0, .int .u8 0, .bool false, .bool false, .int .u8 0, .slice none 0 0] 29)).alloc (.cells #[.int .u8 1, .int .u8 2, .int .u8 3, .int .u8 5, .int .u8 6, .int .u8 8, .int .u8 9, .int .u8 10, .int .u8 11, .int .u8 13, .int .u8 14] 22)).alloc (.cells #[.int .u8 11, .int .u8 0, .int .u8 0, .int .u16 0, .int .u8 0, .int .u8 0, .bool false, .bool false, .int .u8 0, .slice none 0 0] 29)))) _ _
    replace hR : Hid ((World.drew ((((w.alloc (.cells #[.int .u8 (wt : Int), .int .u8 (a : Int), .int .u8 (b : Int), .int .u16 (fr : Int), .int .u8 (fl : Int), .slice A xs.length c] 34)).alloc (.cells #[.int .u8 0, .int .u8 0, .int .u8 0, .int .u16 0, .int .u8 0, .int .u8 0, .bool false, .bool false, .int .u8 0, .slice none 0 0] 29)).alloc (.cells #[.int .u8 1, .int .u8 2, .int .u8 3, .int .u8 5, .int .u8 6, .int .u8 8, .int .u8 9, .int .u8 10, .int .u8 11, .int .u8 13, .int .u8 14] 22)).alloc (.cells #[.int .u8 11, .int .u8 0, .int .u8 0, .int .u16 0, .int .u8 0, .int .u8 0, .bool false, .bool false, .int .u8 0, .slice none 0 0] 29))).heap[w.heap.size + 1]? = some (.cells #[.int .u8 0, .int .u8 0, .int .u8 0, .int .u16 0, .int .u8 0, .int .u8 0, .bool false, .bool false, .int .u8 0, .slice none 0 0] 29)) := hR
    replace hP : Hid ((World.drew ((((w.alloc (.cells #[.int .u8 (wt : Int), .int .u8 (a : Int), .int .u8 (b : Int), .int .u16 (fr : Int), .int .u8 (fl : Int), .slice A xs.length c] 34)).alloc (.cells #[.int .u8 0, .int .u8 0, .int .u8 0, .int .u16 0, .int .u8 0, .int .u8 0, .bool false, .bool false, .int .u8 0, .slice none 0 0] 29)).alloc (.cells #[.int .u8 1, .int .u8 2, .int .u8 3, .int .u8 5, .int .u8 6, .int .u8 8, .int .u8 9, .int .u8 10, .int .u8 11, .int .u8 13, .int .u8 14] 22)).alloc (.cells #[.int .u8 11, .int .u8 0, .int .u8 0, .int .u16 0, .int .u8 0, .int .u8 0, .bool false, .bool false, .int .u8 0, .slice none 0 0] 29))).heap[w.heap.size + 1 + 1 + 1]? = some (.cells #[.int .u8 11, .int .u8 0, .int .u8 0, .int .u16 0, .int .u8 0, .int .u8 0, .bool false, .bool false, .int .u8 0, .slice none 0 0] 29)) := hP
    replace c5 : (World.drew ((((w.alloc (.cells #[.int .u8 (wt : Int), .int .u8 (a : Int), .int .u8 (b : Int), .int .u16 (fr : Int), .int .u8 (fl : Int), .slice A xs.length c] 34)).alloc (.cells #[.int .u8 0, .int .u8 0, .int .u8 0, .int .u16 0, .int .u8 0, .int .u8 0, .bool false, .bool false, .int .u8 0, .slice none 0 0] 29)).alloc (.cells #[.int .u8 1, .int .u8 2, .int .u8 3, .int .u8 5, .int .u8 6, .int .u8 8, .int .u8 9, .int .u8 10, .int .u8 11, .int .u8 13, .int .u8 14] 22)).alloc (.cells #[.int .u8 11, .int .u8 0, .int .u8 0, .int .u16 0, .int .u8 0, .int .u8 0, .bool false, .bool false, .int .u8 0, .slice none 0 0] 29))).cell? ⟨w.heap.size, 5, none⟩ = some (.slice A xs.length c) := c5
    have hB2 := Lib.hid hB.out.drew
    have hrd2 := Lib.hid hrd.out.drew
    clear hB hrd
    have hl9 : (World.drew ((((w.alloc (.cells #[.int .u8 (wt : Int), .int .u8 (a : Int), .int .u8 (b : Int), .int .u16 (fr : Int), .int .u8 (fl : Int), .slice A xs.length c] 34)).alloc (.cells #[.int .u8 0, .int .u8 0, .int .u8 0, .int .u16 0, .int .u8 0, .int .u8 0, .bool false, .bool false, .int .u8 0, .slice none 0 0] 29)).alloc (.cells #[.int .u8 1, .int .u8 2, .int .u8 3, .int .u8 5, .int .u8 6, .int .u8 8, .int .u8 9, .int .u8 10, .int .u8 11, .int .u8 13, .int .u8 14] 22)).alloc (.cells #[.int .u8 11, .int .u8 0, .int .u8 0, .int .u16 0, .int .u8 0, .int .u8 0, .bool false, .bool false, .int .u8 0, .slice none 0 0] 29))).cell? ⟨w.heap.size + 1 + 1 + 1, 9, none⟩ = some (.slice none 0 0) := cell_at hP.out 9
    replace hrd2 : Hid (Rd (World.drew ((((w.alloc (.cells #[.int .u8 (wt : Int), .int .u8 (a : Int), .int .u8 (b : Int), .int .u16 (fr : Int), .int .u8 (fl : Int), .slice A xs.length c] 34)).alloc (.cells #[.int .u8 0, .int .u8 0, .int .u8 0, .int .u16 0, .int .u8 0, .int .u8 0, .bool false, .bool false, .int .u8 0, .slice none 0 0] 29)).alloc (.cells #[.int .u8 1, .int .u8 2, .int .u8 3, .int .u8 5, .int .u8 6, .int .u8 8, .int .u8 9, .int .u8 10, .int .u8 11, .int .u8 13, .int .u8 14] 22)).alloc (.cells #[.int .u8 11, .int .u8 0, .int .u8 0, .int .u16 0, .int .u8 0, .int .u8 0, .bool false, .bool false, .int .u8 0, .slice none 0 0] 29))) (World.drew ((((w.alloc (.cells #[.int .u8 (wt : Int), .int .u8 (a : Int), .int .u8 (b : Int), .int .u16 (fr : Int), .int .u8 (fl : Int), .slice A xs.length c] 34)).alloc (.cells #[.int .u8 0, .int .u8 0, .int .u8 0, .int .u16 0, .int .u8 0, .int .u8 0, .bool false, .bool false, .int .u8 0, .slice none 0 0] 29)).alloc (.cells #[.int .u8 1, .int .u8 2, .int .u8 3, .int .u8 5, .int .u8 6, .int .u8 8, .int .u8 9, .int .u8 10, .int .u8 11, .int .u8 13, .int .u8 14] 22)).alloc (.cells #[.int .u8 11, .int .u8 0, .int .u8 0, .int .u16 0, .int .u8 0, .int .u8 0, .bool false, .bool false, .int .u8 0, .slice none 0 0] 29))).heap.size A c xs) := hrd2
    generalize World.drew ((((w.alloc (.cells #[.int .u8 (wt : Int), .int .u8 (a : Int), .int .u8 (b : Int), .int .u16 (fr : Int), .int .u8 (fl : Int), .slice A xs.length c] 34)).alloc (.cells #[.int .u8 0, .int .u8 0, .int .u8 0, .int .u16 0, .int .u8 0, .int .u8 0, .bool false, .bool false, .int .u8 0, .slice none 0 0] 29)).alloc (.cells #[.int .u8 1, .int .u8 2, .int .u8 3, .int .u8 5, .int .u8 6, .int .u8 8, .int .u8 9, .int .u8 10, .int .u8 11, .int .u8 13, .int .u8 14] 22)).alloc (.cells #[.int .u8 11, .int .u8 0, .int .u8 0, .int .u16 0, .int .u8 0, .int .u8 0, .bool false, .bool false, .int .u8 0, .slice none 0 0] 29)) = W5 at hR hP hB2 hrd2 c5 hl9 ⊢
    have hsl := hslh.out
    still_step
    still_step
    still_step
    still_step
    still_step
    still_step
    refine wpStill_nil ?_
    clear hsl c5 hl9
    have ne1 : w.heap.size + 1 + 1 + 1 ≠ w.heap.size + 1 := by omega
    have ne2 : w.heap.size + 1 ≠ w.heap.size + 1 + 1 + 1 := by omega
    go_wp2_with (at_builtin; refine wpl_appendN Tryd.underlying27 Ck.Tryd.info5 rfl (.tmp 68) (.tmp 72) rfl W5.heap.size (.slice none 0 0) [] rfl (own_nil _ _ _) W5.heap.size c A xs hrd2.out rfl (Nat.le_trans (Nat.le_of_eq (Nat.zero_add _)) (Nat.le_trans hl (by decide))) (Nat.le_refl _) ?_; intro v5 w5 hown5 hb5; obtain ⟨A5, k5, rfl, rr, ll, fr1, fr2, hR5, hown6, hbf⟩ := data_pack hR hP hB2 hown5 hb5; clear hR hP hB2 hrd2 hb5 hown5)
    have hw := Lib.hid (Nat.le_of_lt (Nat.lt_trans (Nat.lt_succ_self w.heap.size) hown6.out.1))
    have hR6 := Lib.hid ((Below.heap_setCell w5 ⟨w.heap.size + 1 + 1 + 1, 9, none⟩ (.slice A5 xs.length k5) (w.heap.size + 1) (fun e => ne2 e)).trans hR5.out)
    refine bodyPost_ret (results_cell_row rfl _ _ (w.heap.size + 1) _ _ _ _ rfl (store10 _ _ _ _ _ _ _ _ _ _ _ _ _ _ _ _ _ _ _ _ hR6.out) Tryd.underlying29 rfl (by kernel_rfl)) rfl ?_
    exact ⟨_, rfl, own_base (own_grown (own_grown hown6.out.2.2 (grown_store w5 (w.heap.size + 1 + 1 + 1) 9 _) hown6.out.2.1) (grown10 _ (w.heap.size + 1) _ _ _ _ _ _ _ _ _ _) hown6.out.1) hw.out, below10 _ _ _ _ _ _ _ _ _ _ (Below.setCell (p := ⟨w.heap.size + 1 + 1 + 1, 9, none⟩) hbf.out (Nat.le_trans (Nat.le_succ _) (Nat.le_trans (Nat.le_succ _) (Nat.le_succ _))) _) (Nat.le_succ _)⟩

end Go.Proofs.YtfblpakoibadoaaDoor

/-
  Helper text: the words of handshakes and data; no statement is proved here.
-/
import Derived.Test.YtfblpakoibadoaaDoorWords
namespace Go.Proofs.YtfblpakoibadoaaDoor
open Go Go.RowKit

set_option maxHeartbeats 1600000 in
set_option maxRecDepth 100000 in
theorem words_bare (w : World) (hL : Laid w) (r : Rg) (A : Option Addr) (c : Nat) (hd : r.data = .slice A 0 c) (hp : r.pid = 2 ∨ r.pid = 6 ∨ r.pid = 10 ∨ r.pid = 14 ∨ r.pid = 3 ∨ r.pid = 11) :
    Calls Tryd.prog 16 #[.agg (pcells r)] w (ResW w (wordsL r [])) := by
  have hw : wordsL r [] = [pidL.getD r.pid []] := by
    unfold wordsL; rw [if_neg (by omega), if_neg (by omega), if_neg (by omega), if_pos rfl]; rfl
  rw [hw]
  obtain ⟨p0, p1, p2, p3, p4, p5, p6, p7, p8, p9, p10⟩ := r
  simp only at hd hp
  clear hw
  subst hd
  simp only [pcells]
  rcases hp with rfl | rfl | rfl | rfl | rfl | rfl
  · have hbW := (Below.refl w.heap.size w).alloc (Nat.le_refl _) (.cells #[.int .u8 2, .int .u8 (p1 : Int), .int .u8 (p2 : Int), .int .u16 (p3 : Int), .int .u8 (p4 : Int), .int .u8 (p5 : Int), .bool p6, .bool p7, .int .u8 (p8 : Int), .slice A 0 c] 29)
    have hb2 := Lib.hid (hbW.alloc hbW.size (.cells #[sv [97, 99, 107]] 9))
    have cN : (w.alloc (.cells #[.int .u8 2, .int .u8 (p1 : Int), .int .u8 (p2 : Int), .int .u16 (p3 : Int), .int .u8 (p4 : Int), .int .u8 (p5 : Int), .bool p6, .bool p7, .int .u8 (p8 : Int), .slice A 0 c] 29)).cell? ⟨0, 2, none⟩ = some (sv [97, 99, 107]) := (hL.below hbW).pid 2 (by decide)
    have hown : ((w.alloc (.cells #[.int .u8 2, .int .u8 (p1 : Int), .int .u8 (p2 : Int), .int .u16 (p3 : Int), .int .u8 (p4 : Int), .int .u8 (p5 : Int), .bool p6, .bool p7, .int .u8 (p8 : Int), .slice A 0 c] 29)).alloc (.cells #[sv [97, 99, 107]] 9)).ownsRow (w.heap.size + 1) 9 1 (.slice (some ⟨w.heap.size + 1, 0, none⟩) 1 1) ([[97, 99, 107]] : List (List UInt8)).length (([[97, 99, 107]] : List (List UInt8)).map sv) := by
      have h := ownS_built (w.alloc (.cells #[.int .u8 2, .int .u8 (p1 : Int), .int .u8 (p2 : Int), .int .u16 (p3 : Int), .int .u8 (p4 : Int), .int .u8 (p5 : Int), .bool p6, .bool p7, .int .u8 (p8 : Int), .slice A 0 c] 29)) 9 [[97, 99, 107]] (by decide)
      rw [show (w.alloc (.cells #[.int .u8 2, .int .u8 (p1 : Int), .int .u8 (p2 : Int), .int .u16 (p3 : Int), .int .u8 (p4 : Int), .int .u8 (p5 : Int), .bool p6, .bool p7, .int .u8 (p8 : Int), .slice A 0 c] 29)).heap.size = w.heap.size + 1 by simp] at h
      exact h
    have hownh := Lib.hid hown
    have hle := Lib.hid (show w.heap.size + 1 ≤ ((w.alloc (.cells #[.int .u8 2, .int .u8 (p1 : Int), .int .u8 (p2 : Int), .int .u16 (p3 : Int), .int .u8 (p4 : Int), .int .u8 (p5 : Int), .bool p6, .bool p7, .int .u8 (p8 : Int), .slice A 0 c] 29)).alloc (.cells #[sv [97, 99, 107]] 9)).heap.size by simp)
    clear hown hbW hL
    go_enter Tryd.func16, Tryd.ntmps16
    go_wp2
    go_ret
    exact ⟨_, rfl, own_base' hownh.out (Nat.le_succ _), hb2.out⟩
  · have hbW := (Below.refl w.heap.size w).alloc (Nat.le_refl _) (.cells #[.int .u8 6, .int .u8 (p1 : Int), .int .u8 (p2 : Int), .int .u16 (p3 : Int), .int .u8 (p4 : Int), .int .u8 (p5 : Int), .bool p6, .bool p7, .int .u8 (p8 : Int), .slice A 0 c] 29)
    have hb2 := Lib.hid (hbW.alloc hbW.size (.cells #[sv [110, 121, 101, 116]] 9))
    have cN : (w.alloc (.cells #[.int .u8 6, .int .u8 (p1 : Int), .int .u8 (p2 : Int), .int .u16 (p3 : Int), .int .u8 (p4 : Int), .int .u8 (p5 : Int), .bool p6, .bool p7, .int .u8 (p8 : Int), .slice A 0 c] 29)).cell? ⟨0, 6, none⟩ = some (sv [110, 121, 101, 116]) := (hL.below hbW).pid 6 (by decide)
    have hown : ((w.alloc (.cells #[.int .u8 6, .int .u8 (p1 : Int), .int .u8 (p2 : Int), .int .u16 (p3 : Int), .int .u8 (p4 : Int), .int .u8 (p5 : Int), .bool p6, .bool p7, .int .u8 (p8 : Int), .slice A 0 c] 29)).alloc (.cells #[sv [110, 121, 101, 116]] 9)).ownsRow (w.heap.size + 1) 9 1 (.slice (some ⟨w.heap.size + 1, 0, none⟩) 1 1) ([[110, 121, 101, 116]] : List (List UInt8)).length (([[110, 121, 101, 116]] : List (List UInt8)).map sv) := by
      have h := ownS_built (w.alloc (.cells #[.int .u8 6, .int .u8 (p1 : Int), .int .u8 (p2 : Int), .int .u16 (p3 : Int), .int .u8 (p4 : Int), .int .u8 (p5 : Int), .bool p6, .bool p7, .int .u8 (p8 : Int), .slice A 0 c] 29)) 9 [[110, 121, 101, 116]] (by decide)
      rw [show (w.alloc (.cells #[.int .u8 6, .int .u8 (p1 : Int), .int .u8 (p2 : Int), .int .u16 (p3 : Int), .int .u8 (p4 : Int), .int .u8 (p5 : Int), .bool p6, .bool p7, .int .u8 (p8 : Int), .slice A 0 c] 29)).heap.size = w.heap.size + 1 by simp] at h
      exact h
    have hownh := Lib.hid hown
    have hle := Lib.hid (show w.heap.size + 1 ≤ ((w.alloc (.cells #[.int .u8 6, .int .u8 (p1 : Int), .int .u8 (p2 : Int), .int .u16 (p3 : Int), .int .u8 (p4 : Int), .int .u8 (p5 : Int), .bool p6, .bool p7, .int .u8 (p8 : Int), .slice A 0 c] 29)).alloc (.cells #[sv [110, 121, 101, 116]] 9)).heap.size by simp)
    clear hown hbW hL
    go_enter Tryd.func16, Tryd.ntmps16
    go_wp2
    go_ret
    exact ⟨_, rfl, own_base' hownh.out (Nat.le_succ _), hb2.out⟩
  · have hbW := (Below.refl w.heap.size w).alloc (Nat.le_refl _) (.cells #[.int .u8 10, .int .u8 (p1 : Int), .int .u8 (p2 : Int), .int .u16 (p3 : Int), .int .u8 (p4 : Int), .int .u8 (p5 : Int), .bool p6, .bool p7, .int .u8 (p8 : Int), .slice A 0 c] 29)
    have hb2 := Lib.hid (hbW.alloc hbW.size (.cells #[sv [110, 97, 107]] 9))
    have cN : (w.alloc (.cells #[.int .u8 10, .int .u8 (p1 : Int), .int .u8 (p2 : Int), .int .u16 (p3 : Int), .int .u8 (p4 : Int), .int .u8 (p5 : Int), .bool p6, .bool p7, .int .u8 (p8 : Int), .slice A 0 c] 29)).cell? ⟨0, 10, none⟩ = some (sv [110, 97, 107]) := (hL.below hbW).pid 10 (by decide)
    have hown : ((w.alloc (.cells #[.int .u8 10, .int .u8 (p1 : Int), .int .u8 (p2 : Int), .int .u16 (p3 : Int), .int .u8 (p4 : Int), .int .u8 (p5 : Int), .bool p6, .bool p7, .int .u8 (p8 : Int), .slice A 0 c] 29)).alloc (.cells #[sv [110, 97, 107]] 9)).ownsRow (w.heap.size + 1) 9 1 (.slice (some ⟨w.heap.size + 1, 0, none⟩) 1 1) ([[110, 97, 107]] : List (List UInt8)).length (([[110, 97, 107]] : List (List UInt8)).map sv) := by
      have h := ownS_built (w.alloc (.cells #[.int .u8 10, .int .u8 (p1 : Int), .int .u8 (p2 : Int), .int .u16 (p3 : Int), .int .u8 (p4 : Int), .int .u8 (p5 : Int), .bool p6, .bool p7, .int .u8 (p8 : Int), .slice A 0 c] 29)) 9 [[110, 97, 107]] (by decide)
      rw [show (w.alloc (.cells #[.int .u8 10, .int .u8 (p1 : Int), .int .u8 (p2 : Int), .int .u16 (p3 : Int), .int .u8 (p4 : Int), .int .u8 (p5 : Int), .bool p6, .bool p7, .int .u8 (p8 : Int), .slice A 0 c] 29)).heap.size = w.heap.size + 1 by simp] at h
      exact h
    have hownh := Lib.hid hown
    have hle := Lib.hid (show w.heap.size + 1 ≤ ((w.alloc (.cells #[.int .u8 10, .int .u8 (p1 : Int), .int .u8 (p2 : Int), .int .u16 (p3 : Int), .int .u8 (p4 : Int), .int .u8 (p5 : Int), .bool p6, .bool p7, .int .u8 (p8 : Int), .slice A 0 c] 29)).alloc (.cells #[sv [110, 97, 107]] 9)).heap.size by simp)
    clear hown hbW hL
    go_enter Tryd.func16, Tryd.ntmps16
    go_wp2
    go_ret
    exact ⟨_, rfl, own_base' hownh.out (Nat.le_succ _), hb2.out⟩
  · have hbW := (Below.refl w.heap.size w).alloc (Nat.le_refl _) (.cells #[.int .u8 14, .int .u8 (p1 : Int), .int .u8 (p2 : Int), .int .u16 (p3 : Int), .int .u8 (p4 : Int), .int .u8 (p5 : Int), .bool p6, .bool p7, .int .u8 (p8 : Int), .slice A 0 c] 29)
    have hb2 := Lib.hid (hbW.alloc hbW.size (.cells #[sv [115, 116, 97, 108, 108]] 9))
    have cN : (w.alloc (.cells #[.int .u8 14, .int .u8 (p1 : Int), .int .u8 (p2 : Int), .int .u16 (p3 : Int), .int .u8 (p4 : Int), .int .u8 (p5 : Int), .bool p6, .bool p7, .int .u8 (p8 : Int), .slice A 0 c] 29)).cell? ⟨0, 14, none⟩ = some (sv [115, 116, 97, 108, 108]) := (hL.below hbW).pid 14 (by decide)
    have hown : ((w.alloc (.cells #[.int .u8 14, .int .u8 (p1 : Int), .int .u8 (p2 : Int), .int .u16 (p3 : Int), .int .u8 (p4 : Int), .int .u8 (p5 : Int), .bool p6, .bool p7, .int .u8 (p8 : Int), .slice A 0 c] 29)).alloc (.cells #[sv [115, 116, 97, 108, 108]] 9)).ownsRow (w.heap.size + 1) 9 1 (.slice (some ⟨w.heap.size + 1, 0, none⟩) 1 1) ([[115, 116, 97, 108, 108]] : List (List UInt8)).length (([[115, 116, 97, 108, 108]] : List (List UInt8)).map sv) := by
      have h := ownS_built (w.alloc (.cells #[.int .u8 14, .int .u8 (p1 : Int), .int .u8 (p2 : Int), .int .u16 (p3 : Int), .int .u8 (p4 : Int), .int .u8 (p5 : Int), .bool p6, .bool p7, .int .u8 (p8 : Int), .slice A 0 c] 29)) 9 [[115, 116, 97, 108, 108]] (by decide)
      rw [show (w.alloc (.cells #[.int .u8 14, .int .u8 (p1 : Int), .int .u8 (p2 : Int), .int .u16 (p3 : Int), .int .u8 (p4 : Int), .int .u8 (p5 : Int), .bool p6, .bool p7, .int .u8 (p8 : Int), .slice A 0 c] 29)).heap.size = w.heap.size + 1 by simp] at h
      exact h
    have hownh := Lib.hid hown
    have hle := Lib.hid (show w.heap.size + 1 ≤ ((w.alloc (.cells #[.int .u8 14, .int .u8 (p1 : Int), .int .u8 (p2 : Int), .int .u16 (p3 : Int), .int .u8 (p4 : Int), .int .u8 (p5 : Int), .bool p6, .bool p7, .int .u8 (p8 : Int), .slice A 0 c] 29)).alloc (.cells #[sv [115, 116, 97, 108, 108]] 9)).heap.size by simp)
    clear hown hbW hL
    go_enter Tryd.func16, Tryd.ntmps16
    go_wp2
    go_ret
    exact ⟨_, rfl, own_base' hownh.out (Nat.le_succ _), hb2.out⟩
  · have hbW := (Below.refl w.heap.size w).alloc (Nat.le_refl _) (.cells #[.int .u8 3, .int .u8 (p1 : Int), .int .u8 (p2 : Int), .int .u16 (p3 : Int), .int .u8 (p4 : Int), .int .u8 (p5 : Int), .bool p6, .bool p7, .int .u8 (p8 : Int), .slice A 0 c] 29)
    have hb2 := Lib.hid (hbW.alloc hbW.size (.cells #[sv [100, 97, 116, 97, 48]] 9))
    have cN : (w.alloc (.cells #[.int .u8 3, .int .u8 (p1 : Int), .int .u8 (p2 : Int), .int .u16 (p3 : Int), .int .u8 (p4 : Int), .int .u8 (p5 : Int), .bool p6, .bool p7, .int .u8 (p8 : Int), .slice A 0 c] 29)).cell? ⟨0, 3, none⟩ = some (sv [100, 97, 116, 97, 48]) := (hL.below hbW).pid 3 (by decide)
    have hown : ((w.alloc (.cells #[.int .u8 3, .int .u8 (p1 : Int), .int .u8 (p2 : Int), .int .u16 (p3 : Int), .int .u8 (p4 : Int), .int .u8 (p5 : Int), .bool p6, .bool p7, .int .u8 (p8 : Int), .slice A 0 c] 29)).alloc (.cells #[sv [100, 97, 116, 97, 48]] 9)).ownsRow (w.heap.size + 1) 9 1 (.slice (some ⟨w.heap.size + 1, 0, none⟩) 1 1) ([[100, 97, 116, 97, 48]] : List (List UInt8)).length (([[100, 97, 116, 97, 48]] : List (List UInt8)).map sv) := by
      have h := ownS_built (w.alloc (.cells #[.int .u8 3, .int .u8 (p1 : Int), .int .u8 (p2 : Int), .int .u16 (p3 : Int), .int .u8 (p4 : Int), .int .u8 (p5 : Int), .bool p6, .bool p7, .int .u8 (p8 : Int), .slice A 0 c] 29)) 9 [[100, 97, 116, 97, 48]] (by decide)
      rw [show (w.alloc (.cells #[.int .u8 3, .int .u8 (p1 : Int), .int .u8 (p2 : Int), .int .u16 (p3 : Int), .int .u8 (p4 : Int), .int .u8 (p5 : Int), .bool p6, .bool p7, .int .u8 (p8 : Int), .slice A 0 c] 29)).heap.size = w.heap.size + 1 by simp] at h
      exact h
    have hownh := Lib.hid hown
    have hle := Lib.hid (show w.heap.size + 1 ≤ ((w.alloc (.cells #[.int .u8 3, .int .u8 (p1 : Int), .int .u8 (p2 : Int), .int .u16 (p3 : Int), .int .u8 (p4 : Int), .int .u8 (p5 : Int), .bool p6, .bool p7, .int .u8 (p8 : Int), .slice A 0 c] 29)).alloc (.cells #[sv [100, 97, 116, 97, 48]] 9)).heap.size by simp)
    clear hown hbW hL
    go_enter Tryd.func16, Tryd.ntmps16
    go_wp2
    go_ret
    exact ⟨_, rfl, own_base' hownh.out (Nat.le_succ _), hb2.out⟩
  · have hbW := (Below.refl w.heap.size w).alloc (Nat.le_refl _) (.cells #[.int .u8 11, .int .u8 (p1 : Int), .int .u8 (p2 : Int), .int .u16 (p3 : Int), .int .u8 (p4 : Int), .int .u8 (p5 : Int), .bool p6, .bool p7, .int .u8 (p8 : Int), .slice A 0 c] 29)
    have hb2 := Lib.hid (hbW.alloc hbW.size (.cells #[sv [100, 97, 116, 97, 49]] 9))
    have cN : (w.alloc (.cells #[.int .u8 11, .int .u8 (p1 : Int), .int .u8 (p2 : Int), .int .u16 (p3 : Int), .int .u8 (p4 : Int), .int .u8 (p5 : Int), .bool p6, .bool p7, .int .u8 (p8 : Int), .slice A 0 c] 29)).cell? ⟨0, 11, none⟩ = some (sv [100, 97, 116, 97, 49]) := (hL.below hbW).pid 11 (by decide)
    have hown : ((w.alloc (.cells #[.int .u8 11, .int .u8 (p1 : Int), .int .u8 (p2 : Int), .int .u16 (p3 : Int), .int .u8 (p4 : Int), .int .u8 (p5 : Int), .bool p6, .bool p7, .int .u8 (p8 : Int), .slice A 0 c] 29)).alloc (.cells #[sv [100, 97, 116, 97, 49]] 9)).ownsRow (w.heap.size + 1) 9 1 (.slice (some ⟨w.heap.size + 1, 0, none⟩) 1 1) ([[100, 97, 116, 97, 49]] : List (List UInt8)).length (([[100, 97, 116, 97, 49]] : List (List UInt8)).map sv) := by
      have h := ownS_built (w.alloc (.cells #[.int .u8 11, .int .u8 (p1 : Int), .int .u8 (p2 : Int), .int .u16 (p3 : Int), .int .u8 (p4 : Int), .int .u8 (p5 : Int), .bool p6, .bool p7, .int .u8 (p8 : Int), .slice A 0 c] 29)) 9 [[100, 97, 116, 97, 49]] (by decide)
      rw [show (w.alloc (.cells #[.int .u8 11, .int .u8 (p1 : Int), .int .u8 (p2 : Int), .int .u16 (p3 : Int), .int .u8 (p4 : Int), .int .u8 (p5 : Int), .bool p6, .bool p7, .int .u8 (p8 : Int), .slice A 0 c] 29)).heap.size = w.heap.size + 1 by simp] at h
      exact h
    have hownh := Lib.hid hown
    have hle := Lib.hid (show w.heap.size + 1 ≤ ((w.alloc (.cells #[.int .u8 11, .int .u8 (p1 : Int), .int .u8 (p2 : Int), .int .u16 (p3 : Int), .int .u8 (p4 : Int), .int .u8 (p5 : Int), .bool p6, .bool p7, .int .u8 (p8 : Int), .slice A 0 c] 29)).alloc (.cells #[sv [100, 97, 116, 97, 49]] 9)).heap.size by simp)
    clear hown hbW hL
    go_enter Tryd.func16, Tryd.ntmps16
    go_wp2
    go_ret
    exact ⟨_, rfl, own_base' hownh.out (Nat.le_succ _), hb2.out⟩

set_option maxHeartbeats 1600000 in
set_option maxRecDepth 100000 in
theorem words_data (w : World) (hL : Laid w) (r : Rg) (A : Option Addr) (c : Nat) (xs : List UInt8) (hx : Rd w w.heap.size A c xs) (hl : xs.length ≤ 1024) (hd : r.data = .slice A xs.length c) (hp : r.pid = 3 ∨ r.pid = 11) (h0 : xs ≠ []) :
    Calls Tryd.prog 16 #[.agg (pcells r)] w (ResW w (wordsL r xs)) := by
  have hw : wordsL r xs = [pidL.getD r.pid [], hexL xs] := by
    unfold wordsL; rw [if_neg (by omega), if_neg (by omega), if_neg (by omega), if_neg h0]; rfl
  rw [hw]
  have hpos : 0 < xs.length := List.length_pos_iff.2 h0
  obtain ⟨p0, p1, p2, p3, p4, p5, p6, p7, p8, p9, p10⟩ := r
  simp only at hd hp
  clear hw h0
  subst hd
  simp only [pcells]
  have t1 : (0 : Int) < (xs.length : Int) := by omega
  rcases hp with rfl | rfl
  · have hbW := (Below.refl w.heap.size w).alloc (Nat.le_refl _) (.cells #[.int .u8 3, .int .u8 (p1 : Int), .int .u8 (p2 : Int), .int .u16 (p3 : Int), .int .u8 (p4 : Int), .int .u8 (p5 : Int), .bool p6, .bool p7, .int .u8 (p8 : Int), .slice A xs.length c] 29)
    have hb2 := Lib.hid (hbW.alloc hbW.size (.cells #[sv [100, 97, 116, 97, 48]] 9))
    have cN : (w.alloc (.cells #[.int .u8 3, .int .u8 (p1 : Int), .int .u8 (p2 : Int), .int .u16 (p3 : Int), .int .u8 (p4 : Int), .int .u8 (p5 : Int), .bool p6, .bool p7, .int .u8 (p8 : Int), .slice A xs.length c] 29)).cell? ⟨0, 3, none⟩ = some (sv [100, 97, 116, 97, 48]) := (hL.below hbW).pid 3 (by decide)
    have hown : ((w.alloc (.cells #[.int .u8 3, .int .u8 (p1 : Int), .int .u8 (p2 : Int), .int .u16 (p3 : Int), .int .u8 (p4 : Int), .int .u8 (p5 : Int), .bool p6, .bool p7, .int .u8 (p8 : Int), .slice A xs.length c] 29)).alloc (.cells #[sv [100, 97, 116, 97, 48]] 9)).ownsRow (w.heap.size + 1) 9 1 (.slice (some ⟨w.heap.size + 1, 0, none⟩) 1 1) ([[100, 97, 116, 97, 48]] : List (List UInt8)).length (([[100, 97, 116, 97, 48]] : List (List UInt8)).map sv) := by
      have h := ownS_built (w.alloc (.cells #[.int .u8 3, .int .u8 (p1 : Int), .int .u8 (p2 : Int), .int .u16 (p3 : Int), .int .u8 (p4 : Int), .int .u8 (p5 : Int), .bool p6, .bool p7, .int .u8 (p8 : Int), .slice A xs.length c] 29)) 9 [[100, 97, 116, 97, 48]] (by decide)
      rw [show (w.alloc (.cells #[.int .u8 3, .int .u8 (p1 : Int), .int .u8 (p2 : Int), .int .u16 (p3 : Int), .int .u8 (p4 : Int), .int .u8 (p5 : Int), .bool p6, .bool p7, .int .u8 (p8 : Int), .slice A xs.length c] 29)).heap.size = w.heap.size + 1 by simp] at h
      exact h
    have hownh := Lib.hid hown
    have hle := Lib.hid (show w.heap.size + 1 ≤ ((w.alloc (.cells #[.int .u8 3, .int .u8 (p1 : Int), .int .u8 (p2 : Int), .int .u16 (p3 : Int), .int .u8 (p4 : Int), .int .u8 (p5 : Int), .bool p6, .bool p7, .int .u8 (p8 : Int), .slice A xs.length c] 29)).alloc (.cells #[sv [100, 97, 116, 97, 48]] 9)).heap.size by simp)
    have hKC := hex_any ((w.alloc (.cells #[.int .u8 3, .int .u8 (p1 : Int), .int .u8 (p2 : Int), .int .u16 (p3 : Int), .int .u8 (p4 : Int), .int .u8 (p5 : Int), .bool p6, .bool p7, .int .u8 (p8 : Int), .slice A xs.length c] 29)).alloc (.cells #[sv [100, 97, 116, 97, 48]] 9)) A c xs (hx.belowTop hb2.out) hl
    have hKCh := Lib.hid hKC
    clear hKC
    clear hown hbW hL
    go_enter Tryd.func16, Tryd.ntmps16
    go_wp2_with fail
    have hKC := hKCh.out
    clear hKCh
    generalize ((w.alloc (.cells #[.int .u8 3, .int .u8 (p1 : Int), .int .u8 (p2 : Int), .int .u16 (p3 : Int), .int .u8 (p4 : Int), .int .u8 (p5 : Int), .bool p6, .bool p7, .int .u8 (p8 : Int), .slice A xs.length c] 29)).alloc (.cells #[sv [100, 97, 116, 97, 48]] 9)) = W2 at hownh hle hb2 hKC ⊢
    refine hKC.mono ?_
    rintro e w3 ⟨rfl, b3⟩
    have hown3 := own_below' hownh.out b3
    have hle3 := Nat.le_trans hle.out b3.size
    have hb3 := Lib.hid (hb2.out.trans (b3.mono hb2.out.size))
    clear cN b3 hownh hle hb2 hKC
    obtain ⟨ds, hds⟩ : ∃ ds, hexL xs = ds := ⟨_, rfl⟩
    have hdh := Lib.hid hds
    rw [hds]
    clear hds
    go_wp2_with (at_builtin; refine wpl_appendS1 (w := w3) Tryd.underlying48 Tryd.info9s rfl (.tmp 43) (.tmp 47) rfl (w.heap.size + 1) (.slice (some ⟨w.heap.size + 1, 0, none⟩) 1 1) [[100, 97, 116, 97, 48]] rfl hown3 ds rfl (by decide) hle3 ?_; intro v' w' hown2 hbel)
    go_ret
    refine ⟨_, rfl, ?_, hb3.out.trans (hbel.mono (Nat.le_succ _))⟩
    rw [hdh.out]
    exact own_base' hown2 (Nat.le_succ _)
  · have hbW := (Below.refl w.heap.size w).alloc (Nat.le_refl _) (.cells #[.int .u8 11, .int .u8 (p1 : Int), .int .u8 (p2 : Int), .int .u16 (p3 : Int), .int .u8 (p4 : Int), .int .u8 (p5 : Int), .bool p6, .bool p7, .int .u8 (p8 : Int), .slice A xs.length c] 29)
    have hb2 := Lib.hid (hbW.alloc hbW.size (.cells #[sv [100, 97, 116, 97, 49]] 9))
    have cN : (w.alloc (.cells #[.int .u8 11, .int .u8 (p1 : Int), .int .u8 (p2 : Int), .int .u16 (p3 : Int), .int .u8 (p4 : Int), .int .u8 (p5 : Int), .bool p6, .bool p7, .int .u8 (p8 : Int), .slice A xs.length c] 29)).cell? ⟨0, 11, none⟩ = some (sv [100, 97, 116, 97, 49]) := (hL.below hbW).pid 11 (by decide)
    have hown : ((w.alloc (.cells #[.int .u8 11, .int .u8 (p1 : Int), .int .u8 (p2 : Int), .int .u16 (p3 : Int), .int .u8 (p4 : Int), .int .u8 (p5 : Int), .bool p6, .bool p7, .int .u8 (p8 : Int), .slice A xs.length c] 29)).alloc (.cells #[sv [100, 97, 116, 97, 49]] 9)).ownsRow (w.heap.size + 1) 9 1 (.slice (some ⟨w.heap.size + 1, 0, none⟩) 1 1) ([[100, 97, 116, 97, 49]] : List (List UInt8)).length (([[100, 97, 116, 97, 49]] : List (List UInt8)).map sv) := by
      have h := ownS_built (w.alloc (.cells #[.int .u8 11, .int .u8 (p1 : Int), .int .u8 (p2 : Int), .int .u16 (p3 : Int), .int .u8 (p4 : Int), .int .u8 (p5 : Int), .bool p6, .bool p7, .int .u8 (p8 : Int), .slice A xs.length c] 29)) 9 [[100, 97, 116, 97, 49]] (by decide)
      rw [show (w.alloc (.cells #[.int .u8 11, .int .u8 (p1 : Int), .int .u8 (p2 : Int), .int .u16 (p3 : Int), .int .u8 (p4 : Int), .int .u8 (p5 : Int), .bool p6, .bool p7, .int .u8 (p8 : Int), .slice A xs.length c] 29)).heap.size = w.heap.size + 1 by simp] at h
      exact h
    have hownh := Lib.hid hown
    have hle := Lib.hid (show w.heap.size + 1 ≤ ((w.alloc (.cells #[.int .u8 11, .int .u8 (p1 : Int), .int .u8 (p2 : Int), .int .u16 (p3 : Int), .int .u8 (p4 : Int), .int .u8 (p5 : Int), .bool p6, .bool p7, .int .u8 (p8 : Int), .slice A xs.length c] 29)).alloc (.cells #[sv [100, 97, 116, 97, 49]] 9)).heap.size by simp)
    have hKC := hex_any ((w.alloc (.cells #[.int .u8 11, .int .u8 (p1 : Int), .int .u8 (p2 : Int), .int .u16 (p3 : Int), .int .u8 (p4 : Int), .int .u8 (p5 : Int), .bool p6, .bool p7, .int .u8 (p8 : Int), .slice A xs.length c] 29)).alloc (.cells #[sv [100, 97, 116, 97, 49]] 9)) A c xs (hx.belowTop hb2.out) hl
    have hKCh := Lib.hid hKC
    clear hKC
    clear hown hbW hL
    go_enter Tryd.func16, Tryd.ntmps16
    go_wp2_with fail
    have hKC := hKCh.out
    clear hKCh
    generalize ((w.alloc (.cells #[.int .u8 11, .int .u8 (p1 : Int), .int .u8 (p2 : Int), .int .u16 (p3 : Int), .int .u8 (p4 : Int), .int .u8 (p5 : Int), .bool p6, .bool p7, .int .u8 (p8 : Int), .slice A xs.length c] 29)).alloc (.cells #[sv [100, 97, 116, 97, 49]] 9)) = W2 at hownh hle hb2 hKC ⊢
    refine hKC.mono ?_
    rintro e w3 ⟨rfl, b3⟩
    have hown3 := own_below' hownh.out b3
    have hle3 := Nat.le_trans hle.out b3.size
    have hb3 := Lib.hid (hb2.out.trans (b3.mono hb2.out.size))
    clear cN b3 hownh hle hb2 hKC
    obtain ⟨ds, hds⟩ : ∃ ds, hexL xs = ds := ⟨_, rfl⟩
    have hdh := Lib.hid hds
    rw [hds]
    clear hds
    go_wp2_with (at_builtin; refine wpl_appendS1 (w := w3) Tryd.underlying48 Tryd.info9s rfl (.tmp 43) (.tmp 47) rfl (w.heap.size + 1) (.slice (some ⟨w.heap.size + 1, 0, none⟩) 1 1) [[100, 97, 116, 97, 49]] rfl hown3 ds rfl (by decide) hle3 ?_; intro v' w' hown2 hbel)
    go_ret
    refine ⟨_, rfl, ?_, hb3.out.trans (hbel.mono (Nat.le_succ _))⟩
    rw [hdh.out]
    exact own_base' hown2 (Nat.le_succ _)

end Go.Proofs.YtfblpakoibadoaaDoor

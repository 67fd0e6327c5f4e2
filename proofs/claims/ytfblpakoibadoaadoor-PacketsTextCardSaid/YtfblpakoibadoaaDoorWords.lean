/-
  Helper text: the words of tokens, starts of frames and handshakes; no statement is proved here.
-/
import Derived.Test.YtfblpakoibadoaaDoorTxt2
namespace Go.Proofs.YtfblpakoibadoaaDoor
open Go Go.RowKit

theorem own_below' {w w' : World} {base t : Nat} {v : Value} {n : Nat} {vs : List Value} (h : w.ownsRow base t 1 v n vs) (hb : Below w.heap.size w w') : w'.ownsRow base t 1 v n vs := own_below h hb

set_option maxHeartbeats 1600000 in
set_option maxRecDepth 100000 in
theorem words_tok (w : World) (hL : Laid w) (r : Rg) (ok : r.Ok) (A : Option Addr) (n c : Nat) (hd : r.data = .slice A n c) (hp : r.pid = 1 ∨ r.pid = 9 ∨ r.pid = 13) (xs : List UInt8) :
    Calls Tryd.prog 16 #[.agg (pcells r)] w (ResW w (wordsL r xs)) := by
  have hw : wordsL r xs = [pidL.getD r.pid [], Lib.decDigits r.addr ++ [46] ++ Lib.decDigits r.endp] := by
    unfold wordsL; rw [if_pos hp]; rfl
  rw [hw]
  have a1 := ok.addr
  have a2 := ok.endp
  obtain ⟨p0, p1, p2, p3, p4, p5, p6, p7, p8, p9, p10⟩ := r
  simp only at hd hp a1 a2
  clear hw ok
  subst hd
  simp only [pcells]
  rcases hp with rfl | rfl | rfl
  · have hbW := (Below.refl w.heap.size w).alloc (Nat.le_refl _) (.cells #[.int .u8 1, .int .u8 (p1 : Int), .int .u8 (p2 : Int), .int .u16 (p3 : Int), .int .u8 (p4 : Int), .int .u8 (p5 : Int), .bool p6, .bool p7, .int .u8 (p8 : Int), .slice A n c] 29)
    have hb2 := Lib.hid (hbW.alloc hbW.size (.cells #[sv [111, 117, 116]] 9))
    have cN : (w.alloc (.cells #[.int .u8 1, .int .u8 (p1 : Int), .int .u8 (p2 : Int), .int .u16 (p3 : Int), .int .u8 (p4 : Int), .int .u8 (p5 : Int), .bool p6, .bool p7, .int .u8 (p8 : Int), .slice A n c] 29)).cell? ⟨0, 1, none⟩ = some (sv [111, 117, 116]) := (hL.below hbW).pid 1 (by decide)
    have hown : ((w.alloc (.cells #[.int .u8 1, .int .u8 (p1 : Int), .int .u8 (p2 : Int), .int .u16 (p3 : Int), .int .u8 (p4 : Int), .int .u8 (p5 : Int), .bool p6, .bool p7, .int .u8 (p8 : Int), .slice A n c] 29)).alloc (.cells #[sv [111, 117, 116]] 9)).ownsRow (w.heap.size + 1) 9 1 (.slice (some ⟨w.heap.size + 1, 0, none⟩) 1 1) ([[111, 117, 116]] : List (List UInt8)).length (([[111, 117, 116]] : List (List UInt8)).map sv) := by
      have h := ownS_built (w.alloc (.cells #[.int .u8 1, .int .u8 (p1 : Int), .int .u8 (p2 : Int), .int .u16 (p3 : Int), .int .u8 (p4 : Int), .int .u8 (p5 : Int), .bool p6, .bool p7, .int .u8 (p8 : Int), .slice A n c] 29)) 9 [[111, 117, 116]] (by decide)
      rw [show (w.alloc (.cells #[.int .u8 1, .int .u8 (p1 : Int), .int .u8 (p2 : Int), .int .u16 (p3 : Int), .int .u8 (p4 : Int), .int .u8 (p5 : Int), .bool p6, .bool p7, .int .u8 (p8 : Int), .slice A n c] 29)).heap.size = w.heap.size + 1 by simp] at h
      exact h
    have hownh := Lib.hid hown
    have hle := Lib.hid (show w.heap.size + 1 ≤ ((w.alloc (.cells #[.int .u8 1, .int .u8 (p1 : Int), .int .u8 (p2 : Int), .int .u16 (p3 : Int), .int .u8 (p4 : Int), .int .u8 (p5 : Int), .bool p6, .bool p7, .int .u8 (p8 : Int), .slice A n c] 29)).alloc (.cells #[sv [111, 117, 116]] 9)).heap.size by simp)
    have hL2 := Lib.hid (hL.below hb2.out)
    clear hown hbW hL
    go_enter Tryd.func16, Tryd.ntmps16
    go_wp2_with fail
    have hKC := pair_any ((w.alloc (.cells #[.int .u8 1, .int .u8 (p1 : Int), .int .u8 (p2 : Int), .int .u16 (p3 : Int), .int .u8 (p4 : Int), .int .u8 (p5 : Int), .bool p6, .bool p7, .int .u8 (p8 : Int), .slice A n c] 29)).alloc (.cells #[sv [111, 117, 116]] 9)) hL2.out p1 p2 a1 a2
    generalize ((w.alloc (.cells #[.int .u8 1, .int .u8 (p1 : Int), .int .u8 (p2 : Int), .int .u16 (p3 : Int), .int .u8 (p4 : Int), .int .u8 (p5 : Int), .bool p6, .bool p7, .int .u8 (p8 : Int), .slice A n c] 29)).alloc (.cells #[sv [111, 117, 116]] 9)) = W2 at hownh hle hb2 hL2 hKC ⊢
    refine hKC.mono ?_
    rintro e w3 ⟨rfl, b3⟩
    have hown3 := own_below' hownh.out b3
    have hle3 := Nat.le_trans hle.out b3.size
    have hb3 := Lib.hid (hb2.out.trans (b3.mono hb2.out.size))
    clear cN b3 hownh hle hb2 hKC
    obtain ⟨ds, hds⟩ : ∃ ds, Lib.decDigits p1 ++ [46] ++ Lib.decDigits p2 = ds := ⟨_, rfl⟩
    have hdh := Lib.hid hds
    rw [hds]
    clear hds
    go_wp2_with (at_builtin; refine wpl_appendS1 (w := w3) Tryd.underlying48 Tryd.info9s rfl (.tmp 15) (.tmp 21) rfl (w.heap.size + 1) (.slice (some ⟨w.heap.size + 1, 0, none⟩) 1 1) [[111, 117, 116]] rfl hown3 ds rfl (by decide) hle3 ?_; intro v' w' hown2 hbel)
    go_ret
    refine ⟨_, rfl, ?_, hb3.out.trans (hbel.mono (Nat.le_succ _))⟩
    rw [hdh.out]
    exact own_base' hown2 (Nat.le_succ _)
  · have hbW := (Below.refl w.heap.size w).alloc (Nat.le_refl _) (.cells #[.int .u8 9, .int .u8 (p1 : Int), .int .u8 (p2 : Int), .int .u16 (p3 : Int), .int .u8 (p4 : Int), .int .u8 (p5 : Int), .bool p6, .bool p7, .int .u8 (p8 : Int), .slice A n c] 29)
    have hb2 := Lib.hid (hbW.alloc hbW.size (.cells #[sv [105, 110]] 9))
    have cN : (w.alloc (.cells #[.int .u8 9, .int .u8 (p1 : Int), .int .u8 (p2 : Int), .int .u16 (p3 : Int), .int .u8 (p4 : Int), .int .u8 (p5 : Int), .bool p6, .bool p7, .int .u8 (p8 : Int), .slice A n c] 29)).cell? ⟨0, 9, none⟩ = some (sv [105, 110]) := (hL.below hbW).pid 9 (by decide)
    have hown : ((w.alloc (.cells #[.int .u8 9, .int .u8 (p1 : Int), .int .u8 (p2 : Int), .int .u16 (p3 : Int), .int .u8 (p4 : Int), .int .u8 (p5 : Int), .bool p6, .bool p7, .int .u8 (p8 : Int), .slice A n c] 29)).alloc (.cells #[sv [105, 110]] 9)).ownsRow (w.heap.size + 1) 9 1 (.slice (some ⟨w.heap.size + 1, 0, none⟩) 1 1) ([[105, 110]] : List (List UInt8)).length (([[105, 110]] : List (List UInt8)).map sv) := by
      have h := ownS_built (w.alloc (.cells #[.int .u8 9, .int .u8 (p1 : Int), .int .u8 (p2 : Int), .int .u16 (p3 : Int), .int .u8 (p4 : Int), .int .u8 (p5 : Int), .bool p6, .bool p7, .int .u8 (p8 : Int), .slice A n c] 29)) 9 [[105, 110]] (by decide)
      rw [show (w.alloc (.cells #[.int .u8 9, .int .u8 (p1 : Int), .int .u8 (p2 : Int), .int .u16 (p3 : Int), .int .u8 (p4 : Int), .int .u8 (p5 : Int), .bool p6, .bool p7, .int .u8 (p8 : Int), .slice A n c] 29)).heap.size = w.heap.size + 1 by simp] at h
      exact h
    have hownh := Lib.hid hown
    have hle := Lib.hid (show w.heap.size + 1 ≤ ((w.alloc (.cells #[.int .u8 9, .int .u8 (p1 : Int), .int .u8 (p2 : Int), .int .u16 (p3 : Int), .int .u8 (p4 : Int), .int .u8 (p5 : Int), .bool p6, .bool p7, .int .u8 (p8 : Int), .slice A n c] 29)).alloc (.cells #[sv [105, 110]] 9)).heap.size by simp)
    have hL2 := Lib.hid (hL.below hb2.out)
    clear hown hbW hL
    go_enter Tryd.func16, Tryd.ntmps16
    go_wp2_with fail
    have hKC := pair_any ((w.alloc (.cells #[.int .u8 9, .int .u8 (p1 : Int), .int .u8 (p2 : Int), .int .u16 (p3 : Int), .int .u8 (p4 : Int), .int .u8 (p5 : Int), .bool p6, .bool p7, .int .u8 (p8 : Int), .slice A n c] 29)).alloc (.cells #[sv [105, 110]] 9)) hL2.out p1 p2 a1 a2
    generalize ((w.alloc (.cells #[.int .u8 9, .int .u8 (p1 : Int), .int .u8 (p2 : Int), .int .u16 (p3 : Int), .int .u8 (p4 : Int), .int .u8 (p5 : Int), .bool p6, .bool p7, .int .u8 (p8 : Int), .slice A n c] 29)).alloc (.cells #[sv [105, 110]] 9)) = W2 at hownh hle hb2 hL2 hKC ⊢
    refine hKC.mono ?_
    rintro e w3 ⟨rfl, b3⟩
    have hown3 := own_below' hownh.out b3
    have hle3 := Nat.le_trans hle.out b3.size
    have hb3 := Lib.hid (hb2.out.trans (b3.mono hb2.out.size))
    clear cN b3 hownh hle hb2 hKC
    obtain ⟨ds, hds⟩ : ∃ ds, Lib.decDigits p1 ++ [46] ++ Lib.decDigits p2 = ds := ⟨_, rfl⟩
    have hdh := Lib.hid hds
    rw [hds]
    clear hds
    go_wp2_with (at_builtin; refine wpl_appendS1 (w := w3) Tryd.underlying48 Tryd.info9s rfl (.tmp 15) (.tmp 21) rfl (w.heap.size + 1) (.slice (some ⟨w.heap.size + 1, 0, none⟩) 1 1) [[105, 110]] rfl hown3 ds rfl (by decide) hle3 ?_; intro v' w' hown2 hbel)
    go_ret
    refine ⟨_, rfl, ?_, hb3.out.trans (hbel.mono (Nat.le_succ _))⟩
    rw [hdh.out]
    exact own_base' hown2 (Nat.le_succ _)
  · have hbW := (Below.refl w.heap.size w).alloc (Nat.le_refl _) (.cells #[.int .u8 13, .int .u8 (p1 : Int), .int .u8 (p2 : Int), .int .u16 (p3 : Int), .int .u8 (p4 : Int), .int .u8 (p5 : Int), .bool p6, .bool p7, .int .u8 (p8 : Int), .slice A n c] 29)
    have hb2 := Lib.hid (hbW.alloc hbW.size (.cells #[sv [115, 101, 116, 117, 112]] 9))
    have cN : (w.alloc (.cells #[.int .u8 13, .int .u8 (p1 : Int), .int .u8 (p2 : Int), .int .u16 (p3 : Int), .int .u8 (p4 : Int), .int .u8 (p5 : Int), .bool p6, .bool p7, .int .u8 (p8 : Int), .slice A n c] 29)).cell? ⟨0, 13, none⟩ = some (sv [115, 101, 116, 117, 112]) := (hL.below hbW).pid 13 (by decide)
    have hown : ((w.alloc (.cells #[.int .u8 13, .int .u8 (p1 : Int), .int .u8 (p2 : Int), .int .u16 (p3 : Int), .int .u8 (p4 : Int), .int .u8 (p5 : Int), .bool p6, .bool p7, .int .u8 (p8 : Int), .slice A n c] 29)).alloc (.cells #[sv [115, 101, 116, 117, 112]] 9)).ownsRow (w.heap.size + 1) 9 1 (.slice (some ⟨w.heap.size + 1, 0, none⟩) 1 1) ([[115, 101, 116, 117, 112]] : List (List UInt8)).length (([[115, 101, 116, 117, 112]] : List (List UInt8)).map sv) := by
      have h := ownS_built (w.alloc (.cells #[.int .u8 13, .int .u8 (p1 : Int), .int .u8 (p2 : Int), .int .u16 (p3 : Int), .int .u8 (p4 : Int), .int .u8 (p5 : Int), .bool p6, .bool p7, .int .u8 (p8 : Int), .slice A n c] 29)) 9 [[115, 101, 116, 117, 112]] (by decide)
      rw [show (w.alloc (.cells #[.int .u8 13, .int .u8 (p1 : Int), .int .u8 (p2 : Int), .int .u16 (p3 : Int), .int .u8 (p4 : Int), .int .u8 (p5 : Int), .bool p6, .bool p7, .int .u8 (p8 : Int), .slice A n c] 29)).heap.size = w.heap.size + 1 by simp] at h
      exact h
    have hownh := Lib.hid hown
    have hle := Lib.hid (show w.heap.size + 1 ≤ ((w.alloc (.cells #[.int .u8 13, .int .u8 (p1 : Int), .int .u8 (p2 : Int), .int .u16 (p3 : Int), .int .u8 (p4 : Int), .int .u8 (p5 : Int), .bool p6, .bool p7, .int .u8 (p8 : Int), .slice A n c] 29)).alloc (.cells #[sv [115, 101, 116, 117, 112]] 9)).heap.size by simp)
    have hL2 := Lib.hid (hL.below hb2.out)
    clear hown hbW hL
    go_enter Tryd.func16, Tryd.ntmps16
    go_wp2_with fail
    have hKC := pair_any ((w.alloc (.cells #[.int .u8 13, .int .u8 (p1 : Int), .int .u8 (p2 : Int), .int .u16 (p3 : Int), .int .u8 (p4 : Int), .int .u8 (p5 : Int), .bool p6, .bool p7, .int .u8 (p8 : Int), .slice A n c] 29)).alloc (.cells #[sv [115, 101, 116, 117, 112]] 9)) hL2.out p1 p2 a1 a2
    generalize ((w.alloc (.cells #[.int .u8 13, .int .u8 (p1 : Int), .int .u8 (p2 : Int), .int .u16 (p3 : Int), .int .u8 (p4 : Int), .int .u8 (p5 : Int), .bool p6, .bool p7, .int .u8 (p8 : Int), .slice A n c] 29)).alloc (.cells #[sv [115, 101, 116, 117, 112]] 9)) = W2 at hownh hle hb2 hL2 hKC ⊢
    refine hKC.mono ?_
    rintro e w3 ⟨rfl, b3⟩
    have hown3 := own_below' hownh.out b3
    have hle3 := Nat.le_trans hle.out b3.size
    have hb3 := Lib.hid (hb2.out.trans (b3.mono hb2.out.size))
    clear cN b3 hownh hle hb2 hKC
    obtain ⟨ds, hds⟩ : ∃ ds, Lib.decDigits p1 ++ [46] ++ Lib.decDigits p2 = ds := ⟨_, rfl⟩
    have hdh := Lib.hid hds
    rw [hds]
    clear hds
    go_wp2_with (at_builtin; refine wpl_appendS1 (w := w3) Tryd.underlying48 Tryd.info9s rfl (.tmp 15) (.tmp 21) rfl (w.heap.size + 1) (.slice (some ⟨w.heap.size + 1, 0, none⟩) 1 1) [[115, 101, 116, 117, 112]] rfl hown3 ds rfl (by decide) hle3 ?_; intro v' w' hown2 hbel)
    go_ret
    refine ⟨_, rfl, ?_, hb3.out.trans (hbel.mono (Nat.le_succ _))⟩
    rw [hdh.out]
    exact own_base' hown2 (Nat.le_succ _)

set_option maxHeartbeats 1600000 in
set_option maxRecDepth 100000 in
theorem words_frame (w : World) (hL : Laid w) (r : Rg) (ok : r.Ok) (A : Option Addr) (n c : Nat) (hd : r.data = .slice A n c) (hp : r.pid = 5) (xs : List UInt8) :
    Calls Tryd.prog 16 #[.agg (pcells r)] w (ResW w (wordsL r xs)) := by
  have hw : wordsL r xs = [pidL.getD r.pid [], Lib.decDigits r.frame] := by
    unfold wordsL; rw [if_neg (by omega), if_pos hp]; rfl
  rw [hw]
  have a3 := ok.frame
  obtain ⟨p0, p1, p2, p3, p4, p5, p6, p7, p8, p9, p10⟩ := r
  simp only at hd hp a3
  clear hw ok
  subst hd
  subst hp
  simp only [pcells]
  have hskip : True := trivial
  have hbW := (Below.refl w.heap.size w).alloc (Nat.le_refl _) (.cells #[.int .u8 5, .int .u8 (p1 : Int), .int .u8 (p2 : Int), .int .u16 (p3 : Int), .int .u8 (p4 : Int), .int .u8 (p5 : Int), .bool p6, .bool p7, .int .u8 (p8 : Int), .slice A n c] 29)
  have hb2 := Lib.hid (hbW.alloc hbW.size (.cells #[sv [115, 111, 102]] 9))
  have cN : (w.alloc (.cells #[.int .u8 5, .int .u8 (p1 : Int), .int .u8 (p2 : Int), .int .u16 (p3 : Int), .int .u8 (p4 : Int), .int .u8 (p5 : Int), .bool p6, .bool p7, .int .u8 (p8 : Int), .slice A n c] 29)).cell? ⟨0, 5, none⟩ = some (sv [115, 111, 102]) := (hL.below hbW).pid 5 (by decide)
  have hown : ((w.alloc (.cells #[.int .u8 5, .int .u8 (p1 : Int), .int .u8 (p2 : Int), .int .u16 (p3 : Int), .int .u8 (p4 : Int), .int .u8 (p5 : Int), .bool p6, .bool p7, .int .u8 (p8 : Int), .slice A n c] 29)).alloc (.cells #[sv [115, 111, 102]] 9)).ownsRow (w.heap.size + 1) 9 1 (.slice (some ⟨w.heap.size + 1, 0, none⟩) 1 1) ([[115, 111, 102]] : List (List UInt8)).length (([[115, 111, 102]] : List (List UInt8)).map sv) := by
    have h := ownS_built (w.alloc (.cells #[.int .u8 5, .int .u8 (p1 : Int), .int .u8 (p2 : Int), .int .u16 (p3 : Int), .int .u8 (p4 : Int), .int .u8 (p5 : Int), .bool p6, .bool p7, .int .u8 (p8 : Int), .slice A n c] 29)) 9 [[115, 111, 102]] (by decide)
    rw [show (w.alloc (.cells #[.int .u8 5, .int .u8 (p1 : Int), .int .u8 (p2 : Int), .int .u16 (p3 : Int), .int .u8 (p4 : Int), .int .u8 (p5 : Int), .bool p6, .bool p7, .int .u8 (p8 : Int), .slice A n c] 29)).heap.size = w.heap.size + 1 by simp] at h
    exact h
  have hownh := Lib.hid hown
  have hle := Lib.hid (show w.heap.size + 1 ≤ ((w.alloc (.cells #[.int .u8 5, .int .u8 (p1 : Int), .int .u8 (p2 : Int), .int .u16 (p3 : Int), .int .u8 (p4 : Int), .int .u8 (p5 : Int), .bool p6, .bool p7, .int .u8 (p8 : Int), .slice A n c] 29)).alloc (.cells #[sv [115, 111, 102]] 9)).heap.size by simp)
  have hL2 := Lib.hid (hL.below hb2.out)
  clear hown hbW hL
  go_enter Tryd.func16, Tryd.ntmps16
  go_wp2_with fail
  have hKC := itoa_any ((w.alloc (.cells #[.int .u8 5, .int .u8 (p1 : Int), .int .u8 (p2 : Int), .int .u16 (p3 : Int), .int .u8 (p4 : Int), .int .u8 (p5 : Int), .bool p6, .bool p7, .int .u8 (p8 : Int), .slice A n c] 29)).alloc (.cells #[sv [115, 111, 102]] 9)) hL2.out p3 (by omega)
  generalize ((w.alloc (.cells #[.int .u8 5, .int .u8 (p1 : Int), .int .u8 (p2 : Int), .int .u16 (p3 : Int), .int .u8 (p4 : Int), .int .u8 (p5 : Int), .bool p6, .bool p7, .int .u8 (p8 : Int), .slice A n c] 29)).alloc (.cells #[sv [115, 111, 102]] 9)) = W2 at hownh hle hb2 hL2 hKC ⊢
  refine hKC.mono ?_
  rintro e w3 ⟨rfl, b3⟩
  have hown3 := own_below' hownh.out b3
  have hle3 := Nat.le_trans hle.out b3.size
  have hb3 := Lib.hid (hb2.out.trans (b3.mono hb2.out.size))
  clear cN b3 hownh hle hb2 hKC
  obtain ⟨ds, hds⟩ : ∃ ds, Lib.decDigits p3 = ds := ⟨_, rfl⟩
  have hdh := Lib.hid hds
  rw [hds]
  clear hds
  go_wp2_with (at_builtin; refine wpl_appendS1 (w := w3) Tryd.underlying48 Tryd.info9s rfl (.tmp 25) (.tmp 30) rfl (w.heap.size + 1) (.slice (some ⟨w.heap.size + 1, 0, none⟩) 1 1) [[115, 111, 102]] rfl hown3 ds rfl (by decide) hle3 ?_; intro v' w' hown2 hbel)
  go_ret
  refine ⟨_, rfl, ?_, hb3.out.trans (hbel.mono (Nat.le_succ _))⟩
  rw [hdh.out]
  exact own_base' hown2 (Nat.le_succ _)

end Go.Proofs.YtfblpakoibadoaaDoor

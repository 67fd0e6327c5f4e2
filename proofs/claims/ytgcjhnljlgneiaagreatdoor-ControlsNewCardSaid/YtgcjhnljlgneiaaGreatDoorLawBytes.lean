/-
  Helper text: ControlsBytes returns true for any request and any bytes; no statement is proved here.
-/
import Derived.Test.YtgcjhnljlgneiaaGreatDoorBtMath
import Derived.Test.YtgcjhnljlgneiaaGreatDoorRdB
open Go Go.Proofs.YtgcjhnljlgneiaaGreatDoor.Ev Go.RowKit
namespace Go.Proofs.YtgcjhnljlgneiaaGreatDoor
theorem hcal : CalOK Tryz.prog (short 11 tabs (aCall Tryz.prog (drawR Tryz.prog) 60)) := short_ok (noNum_of noNum) mixed livesT (machine_ok (noNum_of noNum) mixed 60)
theorem refD (n : Nat) : Refines (shortD 11 tabs (aCallD Tryz.prog (fun _ => []) n)) (short 11 tabs (aCall Tryz.prog (drawR Tryz.prog) n)) := shortD_ok (aCallD_ok n)
structure SaysL (P : Program) (dec : Dec) (args : List AV) (h : Hp) : Prop where
  is : Says (runL P dec args h)
theorem of_eq {P : Program} {dec : Dec} {args : List AV} {h : Hp} {Q : Prop} (e : Says (runL P dec args h) = Q) (q : Q) : SaysL P dec args h := ⟨Eq.mpr e q⟩
abbrev reqV (t c v i l : Nat) : Value := .agg #[.int .u8 t, .int .u8 c, .int .u16 v, .int .u16 i, .int .u16 l]
theorem reqA_V {σ : Sg} (t c v i l : Nat) : V σ (reqA t c v i l) (reqV t c v i l) := by simp [reqA, V, VL]

set_option maxRecDepth 100000 in
theorem way {W : World} (hT : Held W tabs) (t c v i l : Nat) {B : Nat} {A : Option Addr} {cp : Nat} {xs : List UInt8} (hr : Rd W B A cp xs) (hx : 0 < xs.length) {dec : Dec} (hs : SaysL Tryz.prog dec [reqA t c v i l, .sl 1000 0 xs.length (.known cp)] (withBytes tabs xs)) :
    Calls Tryz.prog 3 #[reqV t c v i l, .slice A xs.length cp] W fun e W' => e = .returned (.bool true) ∧ Below W.heap.size W W' := by
  obtain ⟨b, off, rfl, _, hc⟩ := hr.cells hx
  have hs := hs.is
  unfold runL at hs
  refine law_ok (noNum_of noNum) mixed hcal (refD 60) hs (σ := σ₁ W b off) (ys := [reqV t c v i l, .slice (some ⟨b, off, none⟩) xs.length cp]) (bytes_HR hT hx hc) ⟨_, _, rfl, reqA_V t c v i l, _, _, rfl, ⟨b, off, sizeAt W b, by unfold σ₁; rw [if_neg (by omega), if_pos rfl], cp, by simp, rfl⟩, rfl⟩ (fun id h => by have h : 1001 ≤ id := h; unfold σ₁; rw [if_neg (by omega), if_neg (by omega)]) (by omega) (fun g hg => ⟨_, by simp only [σ₁]; rw [if_pos hg]⟩) bytes_only
set_option maxRecDepth 100000 in
theorem way0 {W : World} (hT : Held W tabs) (t c v i l : Nat) {A : Option Addr} {cp : Nat} {dec : Dec} (hs : SaysL Tryz.prog dec [reqA t c v i l, .esl] (tables tabs)) :
    Calls Tryz.prog 3 #[reqV t c v i l, .slice A 0 cp] W fun e W' => e = .returned (.bool true) ∧ Below W.heap.size W W' := by
  have hs := hs.is
  unfold runL at hs
  refine law_ok (noNum_of noNum) mixed hcal (refD 60) hs (σ := σ₀ W) (ys := [reqV t c v i l, .slice A 0 cp]) (held_HR hT) ⟨_, _, rfl, reqA_V t c v i l, _, _, rfl, ⟨A, cp, rfl⟩, rfl⟩ (fun id h => by have h : 1001 ≤ id := h; unfold σ₀; rw [if_neg (by omega)]) (by omega) (fun g hg => ⟨_, by simp only [σ₀]; rw [if_pos hg]⟩) tables_only

set_option maxRecDepth 100000 in
theorem law_any {W : World} (hT : Held W tabs) (t c : Nat) {v i l : Nat} (hv : v < 65536) (hi : i < 65536) (hl : l < 65536) {B : Nat} {A : Option Addr} {cp : Nat} : ∀ xs : List UInt8, Rd W B A cp xs →
    Calls Tryz.prog 3 #[reqV t c v i l, .slice A xs.length cp] W fun e W' => e = .returned (.bool true) ∧ Below W.heap.size W W'
  | [], _ => way0 hT t c v i l (of_eq (s0 t c v i l) (owesA_ok t c hv hi hl trivial))
  | [x0], hr => way hT t c v i l hr (by simp) (of_eq (s1 t c v i l _ x0) (owesA_ok t c hv hi hl trivial))
  | [x0, x1], hr => way hT t c v i l hr (by simp) (of_eq (s2 t c v i l _ x0 x1) (owesA_ok t c hv hi hl trivial))
  | [x0, x1, x2], hr => way hT t c v i l hr (by simp) (of_eq (s3 t c v i l _ x0 x1 x2) (owesA_ok t c hv hi hl trivial))
  | [x0, x1, x2, x3], hr => way hT t c v i l hr (by simp) (of_eq (s4 t c v i l _ x0 x1 x2 x3) (owesA_ok t c hv hi hl trivial))
  | [x0, x1, x2, x3, x4], hr => way hT t c v i l hr (by simp) (of_eq (s5 t c v i l _ x0 x1 x2 x3 x4) (owesA_ok t c hv hi hl trivial))
  | [x0, x1, x2, x3, x4, x5], hr => way hT t c v i l hr (by simp) (of_eq (s6 t c v i l _ x0 x1 x2 x3 x4 x5) (owesA_ok t c hv hi hl trivial))
  | [x0, x1, x2, x3, x4, x5, x6], hr => way hT t c v i l hr (by simp) (of_eq (s7 t c v i l _ x0 x1 x2 x3 x4 x5 x6) (owesA_ok t c hv hi hl trivial))
  | [x0, x1, x2, x3, x4, x5, x6, x7], hr => way hT t c v i l hr (by simp) (of_eq (s8 t c v i l _ x0 x1 x2 x3 x4 x5 x6 x7) (owesA_ok t c hv hi hl (owesB_ok _ x0 x1 x2 x3 x4 x5 x6 x7)))
  | [x0, x1, x2, x3, x4, x5, x6, x7, x8], hr => way hT t c v i l hr (by simp) (of_eq (s9 t c v i l _ x0 x1 x2 x3 x4 x5 x6 x7 x8) (owesA_ok t c hv hi hl trivial))
  | [x0, x1, x2, x3, x4, x5, x6, x7, x8, x9], hr => way hT t c v i l hr (by simp) (of_eq (s10 t c v i l _ x0 x1 x2 x3 x4 x5 x6 x7 x8 x9) (owesA_ok t c hv hi hl trivial))
  | [x0, x1, x2, x3, x4, x5, x6, x7, x8, x9, x10], hr => way hT t c v i l hr (by simp) (of_eq (s11 t c v i l _ x0 x1 x2 x3 x4 x5 x6 x7 x8 x9 x10) (owesA_ok t c hv hi hl trivial))
  | [x0, x1, x2, x3, x4, x5, x6, x7, x8, x9, x10, x11], hr => way hT t c v i l hr (by simp) (of_eq (s12 t c v i l _ x0 x1 x2 x3 x4 x5 x6 x7 x8 x9 x10 x11) (owesA_ok t c hv hi hl trivial))
  | [x0, x1, x2, x3, x4, x5, x6, x7, x8, x9, x10, x11, x12], hr => way hT t c v i l hr (by simp) (of_eq (s13 t c v i l _ x0 x1 x2 x3 x4 x5 x6 x7 x8 x9 x10 x11 x12) (owesA_ok t c hv hi hl trivial))
  | [x0, x1, x2, x3, x4, x5, x6, x7, x8, x9, x10, x11, x12, x13], hr => way hT t c v i l hr (by simp) (of_eq (s14 t c v i l _ x0 x1 x2 x3 x4 x5 x6 x7 x8 x9 x10 x11 x12 x13) (owesA_ok t c hv hi hl trivial))
  | [x0, x1, x2, x3, x4, x5, x6, x7, x8, x9, x10, x11, x12, x13, x14], hr => way hT t c v i l hr (by simp) (of_eq (s15 t c v i l _ x0 x1 x2 x3 x4 x5 x6 x7 x8 x9 x10 x11 x12 x13 x14) (owesA_ok t c hv hi hl trivial))
  | [x0, x1, x2, x3, x4, x5, x6, x7, x8, x9, x10, x11, x12, x13, x14, x15], hr => way hT t c v i l hr (by simp) (of_eq (s16 t c v i l _ x0 x1 x2 x3 x4 x5 x6 x7 x8 x9 x10 x11 x12 x13 x14 x15) (owesA_ok t c hv hi hl trivial))
  | [x0, x1, x2, x3, x4, x5, x6, x7, x8, x9, x10, x11, x12, x13, x14, x15, x16], hr => way hT t c v i l hr (by simp) (of_eq (s17 t c v i l _ x0 x1 x2 x3 x4 x5 x6 x7 x8 x9 x10 x11 x12 x13 x14 x15 x16) (owesA_ok t c hv hi hl trivial))
  | [x0, x1, x2, x3, x4, x5, x6, x7, x8, x9, x10, x11, x12, x13, x14, x15, x16, x17], hr => way hT t c v i l hr (by simp) (of_eq (s18 t c v i l _ x0 x1 x2 x3 x4 x5 x6 x7 x8 x9 x10 x11 x12 x13 x14 x15 x16 x17) (owesA_ok t c hv hi hl trivial))
  | [x0, x1, x2, x3, x4, x5, x6, x7, x8, x9, x10, x11, x12, x13, x14, x15, x16, x17, x18], hr => way hT t c v i l hr (by simp) (of_eq (s19 t c v i l _ x0 x1 x2 x3 x4 x5 x6 x7 x8 x9 x10 x11 x12 x13 x14 x15 x16 x17 x18) (owesA_ok t c hv hi hl trivial))
  | [x0, x1, x2, x3, x4, x5, x6, x7, x8, x9, x10, x11, x12, x13, x14, x15, x16, x17, x18, x19], hr => way hT t c v i l hr (by simp) (of_eq (s20 t c v i l _ x0 x1 x2 x3 x4 x5 x6 x7 x8 x9 x10 x11 x12 x13 x14 x15 x16 x17 x18 x19) (owesA_ok t c hv hi hl trivial))
  | x0 :: x1 :: x2 :: x3 :: x4 :: x5 :: x6 :: x7 :: x8 :: x9 :: x10 :: x11 :: x12 :: x13 :: x14 :: x15 :: x16 :: x17 :: x18 :: x19 :: x20 :: r, hr => way hT t c v i l hr (by simp) (of_eq (sbig t c v i l _ (x0 :: x1 :: x2 :: x3 :: x4 :: x5 :: x6 :: x7 :: x8 :: x9 :: x10 :: x11 :: x12 :: x13 :: x14 :: x15 :: x16 :: x17 :: x18 :: x19 :: x20 :: r)) ⟨decide_eq_true (by simp only [List.length_cons]; omega), trivial⟩)
/-- The table as our machine has it. -/
theorem held_of {W : World} (h : Laid W) : Held W tabs := fun g cs hm => by
  simp only [tabs, List.mem_singleton, Prod.mk.injEq] at hm
  obtain ⟨rfl, rfl⟩ := hm
  refine ⟨by decide, by decide, fun j a ha => ?_⟩
  have e : pidA = pidL.map AV.str := rfl
  rw [e, List.getElem?_map, Option.map_eq_some_iff] at ha
  obtain ⟨x, hx, rfl⟩ := ha
  have hj : j < 16 := (List.getElem?_eq_some_iff.1 hx).1
  refine ⟨_, rfl, (h.pid j hj).trans ?_⟩
  rw [List.getD_eq_getElem?_getD, hx]
  rfl
end Go.Proofs.YtgcjhnljlgneiaaGreatDoor

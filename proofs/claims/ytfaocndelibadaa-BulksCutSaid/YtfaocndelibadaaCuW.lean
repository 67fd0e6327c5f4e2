/-
  Helper text: what BulksCut's law meets besides: impossible numbers, packets whose bytes change; no statement is proved here.
-/
import Derived.Test.YtfaocndelibadaaCuR
namespace Go.Proofs.Ytfaocndelibadaa
open Go Go.RowKit

theorem cut_no (w : World) (A : Option Addr) (n c : Nat) (max : Int) (zero : Bool) (hm : ¬ (1 ≤ max ∧ max ≤ 1024)) :
    Calls Try.prog 6 #[.slice A n c, .int .i64 max, .bool zero] w fun e w' => e = .returned (.tuple #[.slice none 0 0, .int .i64 1]) ∧ Below w.heap.size w w' := by
  have KP := fun W => possible_any W max
  rw [decide_eq_false hm] at KP
  replace KP := Lib.hid KP
  go_enter Try.func6, Try.ntmps6
  go_wp2_with fail
  refine (KP.out _).mono ?_
  rintro e w' ⟨rfl, rfl⟩
  go_wp2_with fail
  go_ret2
  exact ⟨rfl, Below.refl _ _⟩
theorem join_no (w : World) (A : Option Addr) (n c : Nat) (max : Int) (hm : ¬ (1 ≤ max ∧ max ≤ 1024)) :
    Calls Try.prog 7 #[.slice A n c, .int .i64 max] w fun e w' => e = .returned (.tuple #[.slice none 0 0, .slice none 0 0, .int .i64 1]) ∧ Below w.heap.size w w' := by
  have hb0 := Lib.hid ((Below.refl w.heap.size w).alloc (Nat.le_refl _) (.cells #[.int .i64 max] 3))
  have KP := fun W => possible_any W max
  rw [decide_eq_false hm] at KP
  replace KP := Lib.hid KP
  go_enter Try.func7, Try.ntmps7
  go_wp2_with fail
  refine (KP.out _).mono ?_
  rintro e w' ⟨rfl, rfl⟩
  go_wp2_with fail
  go_ret3
  exact ⟨rfl, hb0.out⟩

/-- A list of packets that the call owns: the bytes may be any. -/
structure Mod (n₁ : Nat) (W : World) (A : Option Addr) (vs : List Value) : Prop where
  cells : CellsOf n₁ W A vs
  each : ∀ i, i < vs.length → ∃ (Ai : Option Addr) (len : Nat), vs[i]? = some (.slice Ai len len) ∧ len ≤ 1000000 ∧ (0 < len → ∃ b off cs, Ai = some ⟨b, off, none⟩ ∧ n₁ ≤ b ∧ W.heap[b]? = some (.cells cs 5 (0, 0)) ∧ ∀ j, j < len → ∃ z : Int, W.cell? ⟨b, off + j, none⟩ = some (.int .u8 z))
namespace Mod
variable {n₁ : Nat} {W W' : World} {A : Option Addr} {vs : List Value}
theorem of {pss : List (List UInt8)} (h : CellsOf n₁ W A vs) (he : Each n₁ W vs pss) (hl : ∀ p ∈ pss, p.length ≤ 1000000) : Mod n₁ W A vs :=
  ⟨h, fun i hi => by
    have hp : i < pss.length := by rw [← he.1]; exact hi
    obtain ⟨A', e, hb⟩ := he.2 i _ _ (List.getElem?_eq_getElem hi) (List.getElem?_eq_getElem hp)
    refine ⟨A', pss[i].length, by rw [List.getElem?_eq_getElem hi, e], hl _ (List.getElem_mem hp), fun h0 => ?_⟩
    obtain ⟨b, off, cs, e1, e2, e3, e4⟩ := hb h0
    exact ⟨b, off, cs, e1, e2, e3, fun j hj => ⟨_, e4 j hj⟩⟩⟩
theorem below (h : Mod n₁ W A vs) (hb : Below W.heap.size W W') : Mod n₁ W' A vs :=
  ⟨h.cells.keep fun b cs _ hh => hb.block b (block_lt hh), fun i hi => by
    obtain ⟨Ai, len, e1, e2, e3⟩ := h.each i hi
    refine ⟨Ai, len, e1, e2, fun h0 => ?_⟩
    obtain ⟨b, off, cs, f1, f2, f3, f4⟩ := e3 h0
    refine ⟨b, off, cs, f1, f2, (hb.block b (block_lt f3)).trans f3, fun j hj => ?_⟩
    obtain ⟨z, hz⟩ := f4 j hj
    exact ⟨z, (hb.cell (block_lt f3)).trans hz⟩⟩
theorem cell (h : Mod n₁ W A vs) {i : Nat} (hi : i < vs.length) : ∃ g, A = some ⟨g, 0, none⟩ ∧ g < W.heap.size ∧ W.cell? ⟨g, i, none⟩ = vs[i]? := by
  obtain ⟨g, cur, e1, e2, e3, e4, e5⟩ := h.cells (by omega)
  refine ⟨g, e1, block_lt e3, ?_⟩
  rw [cell_of_row W g i cur _ (0, 0) e3, ← e5, List.getElem?_take, if_pos hi, Array.getElem?_toList]
theorem set (h : Mod n₁ W A vs) {b o : Nat} {cs : Array Value} (hb : W.heap[b]? = some (.cells cs 5 (0, 0))) (z : Int) : Mod n₁ (W.setCell ⟨b, o, none⟩ (.int .u8 z)) A vs :=
  ⟨h.cells.keep fun b' cs' _ hh => Below.heap_setCell _ _ _ _ (fun e => block_ne hh hb (by decide) e), fun i hi => by
    obtain ⟨Ai, len, e1, e2, e3⟩ := h.each i hi
    refine ⟨Ai, len, e1, e2, fun h0 => ?_⟩
    obtain ⟨b', off, cs', f1, f2, f3, f4⟩ := e3 h0
    by_cases hbb : b' = b
    · subst hbb
      have hset := block_set hb o (.int .u8 z)
      refine ⟨b', off, _, f1, f2, hset, fun j hj => ?_⟩
      obtain ⟨y, hy⟩ := f4 j hj
      rw [cell_of_row W b' (off + j) cs _ (0, 0) hb] at hy
      rw [cell_of_row _ b' (off + j) _ _ (0, 0) hset, Array.getElem?_setIfInBounds]
      have hlt : off + j < cs.size := (Array.getElem?_eq_some_iff.1 hy).1
      by_cases ho : o = off + j
      · rw [if_pos ho, if_pos (by omega)]; exact ⟨z, rfl⟩
      · rw [if_neg ho]; exact ⟨y, hy⟩
    · have hk : (W.setCell ⟨b, o, none⟩ (.int .u8 z)).heap[b']? = W.heap[b']? := Below.heap_setCell _ _ _ _ hbb
      refine ⟨b', off, cs', f1, f2, hk.trans f3, fun j hj => ?_⟩
      obtain ⟨y, hy⟩ := f4 j hj
      exact ⟨y, (World.cell?_of_block hk).trans hy⟩⟩
end Mod
theorem each_rds {n₁ : Nat} {W : World} {A : Option Addr} {vs : List Value} {pss : List (List UInt8)} (h : CellsOf n₁ W A vs) (he : Each n₁ W vs pss) (hl : pss.length ≤ 1000000) (hl2 : ∀ p ∈ pss, p.length ≤ 1000000) : Rds W W.heap.size A pss.length pss := by
  refine ⟨Nat.le_refl _, by omega, fun hn => ?_⟩
  have hvl := he.1
  obtain ⟨g, cur, e1, e2, e3, e4, e5⟩ := h (by omega)
  refine ⟨g, 0, e1, block_lt e3, fun j hj => ?_⟩
  obtain ⟨A', f1, f2⟩ := he.2 j _ _ (List.getElem?_eq_getElem (by omega : j < vs.length)) (List.getElem?_eq_getElem hj)
  have hg : pss.getD j [] = pss[j] := by simp [List.getD, hj]
  rw [hg]
  refine ⟨A', pss[j].length, ?_, Nat.le_refl _, by have := hl2 _ (List.getElem_mem hj); omega, fun h0 => ?_⟩
  · rw [Nat.zero_add, cell_of_row W g j cur _ (0, 0) e3, ← f1, ← List.getElem?_eq_getElem (by omega : j < vs.length), ← e5, List.getElem?_take, if_pos (by omega), Array.getElem?_toList]
  · obtain ⟨b, off, cs, k1, k2, k3, k4⟩ := f2 h0
    exact ⟨b, off, k1, block_lt k3, k4⟩
end Go.Proofs.Ytfaocndelibadaa

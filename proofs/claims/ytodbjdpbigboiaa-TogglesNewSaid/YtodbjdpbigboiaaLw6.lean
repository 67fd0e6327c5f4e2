/-
  Helper text: the last packet of an own list is replaced; no statement is proved here.
-/
import Derived.Test.YtodbjdpbigboiaaLw5
namespace Go.Proofs.Ytodbjdpbigboiaa
open Go Go.RowKit

theorem zeros_cells (z : Nat) : madeCells #[Value.int .u8 0] z = ((List.replicate z (0 : UInt8)).map bv).toArray := by
  apply Array.ext
  · simp [size_madeCells]
  · intro i h1 h2
    have hi : i % 1 = 0 := Nat.mod_one i
    simp [madeCells, bv, hi]

/-- The list whose last packet is z zeros. -/
def lastZ (qs : List (List UInt8)) (z : Nat) : List (List UInt8) := qs.take (qs.length - 1) ++ [List.replicate z 0]
theorem lastZ_length {qs : List (List UInt8)} (z : Nat) (h : 0 < qs.length) : (lastZ qs z).length = qs.length := by
  unfold lastZ; rw [List.length_append, List.length_take, List.length_cons, List.length_nil]; omega
theorem lastZ_lt {qs : List (List UInt8)} (z j : Nat) (h : j < qs.length - 1) : (lastZ qs z).getD j [] = qs.getD j [] := by
  unfold lastZ
  simp only [List.getD]
  rw [List.getElem?_append, if_pos (by rw [List.length_take]; omega), List.getElem?_take, if_pos h]
theorem lastZ_last {qs : List (List UInt8)} (z : Nat) : (lastZ qs z).getD (qs.length - 1) [] = List.replicate z 0 := by
  unfold lastZ
  simp only [List.getD]
  rw [List.getElem?_append, if_neg (by rw [List.length_take]; omega)]
  simp [List.length_take, Nat.min_eq_left]

theorem Pk.setlast {w : World} {base c : Nat} {A : Option Addr} {qs : List (List UInt8)} (h : Pk w base 26 (.slice A qs.length c) qs) (hn : 0 < qs.length) (hb : base ≤ w.heap.size) :
    ∃ (g : Nat) (u : Value), A = some ⟨g, 0, none⟩ ∧ g < w.heap.size ∧ w.cell? ⟨g, qs.length - 1, none⟩ = some u ∧ w.frozen? ⟨g, qs.length - 1, none⟩ = false ∧
      ∀ z : Nat, z ≤ 2000 → Rds ((w.alloc (.cells (madeCells #[.int .u8 0] z) 5)).setCell ⟨g, qs.length - 1, none⟩ (.slice (some ⟨w.heap.size, 0, none⟩) z z)) ((w.alloc (.cells (madeCells #[.int .u8 0] z) 5)).setCell ⟨g, qs.length - 1, none⟩ (.slice (some ⟨w.heap.size, 0, none⟩) z z)).heap.size (some ⟨g, 0, none⟩) c (lastZ qs z) ∧
        Below base w ((w.alloc (.cells (madeCells #[.int .u8 0] z) 5)).setCell ⟨g, qs.length - 1, none⟩ (.slice (some ⟨w.heap.size, 0, none⟩) z z)) := by
  obtain ⟨vs, hown, hv⟩ := h
  obtain ⟨hvl, h2⟩ := hown
  rcases h2 with ⟨_, hz⟩ | ⟨g, cap, cur, he, hge, hh, hle, hm, hcs, ht⟩
  · omega
  obtain ⟨rfl, _, rfl⟩ : A = some ⟨g, 0, none⟩ ∧ qs.length = qs.length ∧ c = cap := by injection he with e1 e2 e3; exact ⟨e1, e2, e3⟩
  have hgl := block_lt hh
  have hcell : ∀ j, j < qs.length → ∃ A' c', w.cell? ⟨g, j, none⟩ = some (.slice A' (qs.getD j []).length c') ∧ Rd w w.heap.size A' c' (qs.getD j []) ∧ (0 < (qs.getD j []).length → ∀ ad, A' = some ad → some ad.block ≠ some g) := fun j hj => by
    obtain ⟨A', c', e1, e2, e3⟩ := hv j hj
    refine ⟨A', c', ?_, e2, e3⟩
    rw [cell_of_row w g j cur _ (0, 0) hh]
    rw [← ht, List.getElem?_take, if_pos (by omega)] at e1
    rw [← Array.getElem?_toList, e1]
  obtain ⟨Al, cl, hcl, _, _⟩ := hcell (qs.length - 1) (by omega)
  refine ⟨g, _, rfl, hgl, hcl, block_free hh _, fun z hz => ?_⟩
  have hsz : (w.alloc (.cells (madeCells #[.int .u8 0] z) 5)).heap.size = w.heap.size + 1 := by simp
  have hbb := (Below.refl w.heap.size w).alloc (Nat.le_refl _) (.cells (madeCells #[.int .u8 0] z) 5)
  have hh1 := (hbb.block _ hgl).trans hh
  have hgs := grown_setCell (w.alloc (.cells (madeCells #[.int .u8 0] z) 5)) ⟨g, qs.length - 1, none⟩ (.slice (some ⟨w.heap.size, 0, none⟩) z z)
  have hh2 := block_set hh1 (qs.length - 1) (.slice (some ⟨w.heap.size, 0, none⟩) z z)
  have hrl := rd_top w 5 (List.replicate z 0) (by rw [List.length_replicate]; omega)
  rw [← zeros_cells, List.length_replicate] at hrl
  have hrl2 := hrl.grownNe hgs (fun _ ad e => by obtain rfl := Option.some.inj e; intro e2; have := Option.some.inj e2; simp only at this; omega)
  have hcsz : qs.length ≤ cur.size := by
    have := congrArg List.length ht
    rw [List.length_take] at this
    have h3 : vs.length = qs.length * 1 := hvl
    simp only [Array.length_toList] at this
    omega
  refine ⟨⟨by rw [lastZ_length z hn]; exact hle, by simpa [maxLen] using hm, fun _ => ⟨g, 0, rfl, Nat.lt_of_lt_of_le hgl (Nat.le_trans hbb.size hgs.size), fun j hj => ?_⟩⟩, (Below.refl base w).alloc hb _ |>.setCell (p := ⟨g, qs.length - 1, none⟩) hge _⟩
  rw [lastZ_length z hn] at hj
  rw [cell_of_row _ g (0 + j) _ _ (0, 0) hh2, Nat.zero_add]
  rcases Nat.lt_or_ge j (qs.length - 1) with hjl | hjl
  · obtain ⟨A', c', e1, e2, e3⟩ := hcell j hj
    rw [lastZ_lt z j hjl]
    refine ⟨A', c', ?_, (e2.belowTop hbb).grownNe hgs e3⟩
    rw [cell_of_row w g j cur _ (0, 0) hh] at e1
    rw [Array.getElem?_setIfInBounds_ne (by omega)]
    exact e1
  · obtain rfl : j = qs.length - 1 := by omega
    rw [lastZ_last z, List.length_replicate]
    exact ⟨_, _, by rw [Array.getElem?_setIfInBounds_self_of_lt (by omega)], hrl2⟩

end Go.Proofs.Ytodbjdpbigboiaa

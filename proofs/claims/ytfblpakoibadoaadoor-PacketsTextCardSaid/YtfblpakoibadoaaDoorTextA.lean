/-
  Helper text: regions whose order Go leaves open, with allocations in them; no statement is proved here.
-/
import Derived.Test.YtfblpakoibadoaaDoorTextF
import Derived.Test.YtfblpakoibadoaaDoorRegB
namespace Go.Proofs.YtfblpakoibadoaaDoor
open Go Go.RowKit

/-- A cell of a struct. -/
theorem block_at {w : World} {g t i : Nat} {cs : Array Value} {v : Value} (h : w.heap[g]? = some (.cells cs t (0, 0))) (hv : cs[i]? = some v) : w.cell? ⟨g, i, none⟩ = some v := by
  rw [cell_of_row w g i cs t (0, 0) h]; exact hv
/-- What holds behind a region, in general. -/
theorem region_inv {P : Program} {Q : Exit → Act → World → Prop} {a : Act} {w : World} {id : Nat} {ops : Array Oper} {fl : Bool} (I : Act → Act → World → Prop)
    (h : (Code.region id ops fl).wp P (fun e a' w' => match e with | .normal => I a a' w' | e => Q e a' w') a w)
    (hr : ∀ a' w', I a a' w' → Q .normal a' w') : (Code.region id ops fl).wp P Q a w :=
  wp_mono h fun e a' w' h => by
    cases e
    case normal => exact hr _ _ h
    all_goals exact h
/-- Any of some operations may come up. -/
theorem stepBA {B : Nat} {P : Program} {Q : Exit → Act → World → Prop} {md : Region.Mode} (L : List Nat) {lst : List Oper} {n : Nat} {l : Array Bool} {a : Act} {w : World} (hr : Region.ready md lst.toArray l = L) (hL : L ≠ [])
    (h : ∀ i ∈ L, ∃ oi, lst[i]? = some oi ∧ Region.wanted oi (yielded lst.toArray a.tmps) = true ∧ ∀ K : Act → World → Prop, (∀ a' w', Below B w w' → wpAnyB B P md lst.toArray Q n (l.setIfInBounds i true) a' w' → K a' w') → oi.wp P a w K Q) : wpAnyB B P md lst.toArray Q (n + 1) l a w := by
  refine ⟨fun h0 => absurd (hr.symm.trans h0) hL, fun k hk => ?_⟩
  rw [hr] at hk
  obtain ⟨oi, hi, hw, H⟩ := h k hk
  have hi' : lst.toArray[k]? = some oi := by simpa using hi
  unfold wpOp
  simp only [hi', hw, if_true]
  exact .inl (H _ fun a' w' g1 g2 => ⟨g1, g2⟩)
/-- A row of the call's own is no older block, and no newer one. -/
theorem own_ne_old {w : World} {base e n : Nat} {v : Value} {vs : List Value} (h : w.ownsRow base e 1 v n vs) {g : Nat} (hg : g < base) : v.ownBlock ≠ some g := fun e => by
  have := (h.lt g e).1
  omega
theorem own_ne_new {w : World} {base e n : Nat} {v : Value} {vs : List Value} (h : w.ownsRow base e 1 v n vs) : v.ownBlock ≠ some w.heap.size := fun e => by
  have := (h.lt _ e).2
  omega
theorem own_apart {w w' : World} {base e n : Nat} {v : Value} {vs : List Value} {g : Nat} (h : w.ownsRow base e 1 v n vs) (hg : w.grownBy w' (some g)) (hne : v.ownBlock ≠ some g) : w'.ownsRow base e 1 v n vs :=
  h.kept hg (by
    cases hv : v.ownBlock with
    | none => exact .inl rfl
    | some k => exact .inr (fun e => hne (by rw [hv]; first | exact e | exact e.symm)))
abbrev set10 (W : World) (B : Nat) (v0 v1 v2 v3 v4 v5 v6 v7 v8 v9 : Value) : World := ((((((((((W.setCell ⟨B, 0, none⟩ v0).setCell ⟨B, 1, none⟩ v1).setCell ⟨B, 2, none⟩ v2).setCell ⟨B, 3, none⟩ v3).setCell ⟨B, 4, none⟩ v4).setCell ⟨B, 5, none⟩ v5).setCell ⟨B, 6, none⟩ v6).setCell ⟨B, 7, none⟩ v7).setCell ⟨B, 8, none⟩ v8).setCell ⟨B, 9, none⟩ v9)

end Go.Proofs.YtfblpakoibadoaaDoor

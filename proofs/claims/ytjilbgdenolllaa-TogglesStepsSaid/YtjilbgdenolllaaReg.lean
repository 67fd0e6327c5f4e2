/-
  Helper text: regions whose order Go leaves open, walked while the world only grows: what reads old memory may be taken first, as soon as it may come up; no statement is proved here.
-/
import Derived.Test.YtjilbgdenolllaaBase
import Derived.OrdersHeld
import Derived.RegionTactic
namespace Go.Proofs.Ytjilbgdenolllaa
open Go Go.RowKit

/-- The world has only grown. -/
def Gr (w w' : World) : Prop := Below w.heap.size w w'
theorem Gr.refl (w : World) : Gr w w := Below.refl _ _
theorem Gr.trans {a b c : World} (h : Gr a b) (k : Gr b c) : Gr a c := Below.trans h (Below.mono k h.size)
theorem Gr.drew (w : World) : Gr w w.drew := (Below.refl _ w).drew

section
variable {P : Program} {ops : Array Oper} {Q : Exit → Act → World → Prop} {md : Region.Mode}

theorem yieldsIf_mono {S T : World → Prop} {o : Oper} {v : Value} {a : Act} (h : YieldsIf P ops S o v a) (hST : ∀ w, T w → S w) : YieldsIf P ops T o v a := by
  rcases h with ⟨h1, h2⟩ | h
  · exact .inl ⟨h1, fun w hw => h2 w (hST w hw)⟩
  · exact .inr h

/-- Whatever comes up next, and behind it the world has only grown. -/
def wpAnyG (P : Program) (md : Region.Mode) (ops : Array Oper) (Q : Exit → Act → World → Prop) : Nat → Array Bool → Act → World → Prop
  | 0, l, a, w => Region.ready md ops l = [] ∧ Q .normal a w
  | n + 1, l, a, w => (Region.ready md ops l = [] → Q .normal a w) ∧
      ∀ i ∈ Region.ready md ops l, wpOp P ops Q i (fun a' w' => Gr w w' ∧ wpAnyG P md ops Q n (l.setIfInBounds i true) a' w') a w

theorem wpAny_of_G (n : Nat) : ∀ (l : Array Bool) (a : Act) (w : World), wpAnyG P md ops Q n l a w → wpAny P md ops Q n l a w := by
  induction n with
  | zero => exact fun _ _ _ h => h
  | succ n ih => exact fun l a w h => ⟨h.1, fun i hi => wpOp_mono (fun a' w' hh => ih _ a' w' hh.2) (h.2 i hi)⟩

theorem wpAnyG_first {i : Nat} {oi : Oper} {v : Value} (hi : ops[i]? = some oi) (hsel : ∀ (j : Nat) (o : Oper) cs b, ops[j]? = some o → o.op ≠ .select cs b)
    (hQ : ∀ c a w, Q (.panic c) (a.put oi.dst v) w → Q (.panic c) a w) (n : Nat) : ∀ (l : Array Bool) (a : Act) (w : World),
      (∀ j oj, ops[j]? = some oj → j ≠ i → l.getD j true = false → (∀ e ∈ oj.after, Region.binds md e = true → e.on ≠ i) → oi.apart ops oj = true) →
      i ∈ Region.ready md ops l → YieldsIf P ops (Gr w) oi v a → wpAnyG P md ops Q n (l.setIfInBounds i true) (a.put oi.dst v) w → wpAnyG P md ops Q (n + 1) l a w := by
  induction n with
  | zero =>
    intro l a w _ hr hy H
    refine ⟨fun h => (by rw [h] at hr; cases hr), fun j hj => ?_⟩
    by_cases e : j = i
    · rw [e]
      exact hy.wpOp hi (Gr.refl w) ⟨Gr.refl w, H⟩
    · have h0 := ready_mono hj e
      rw [H.1] at h0
      cases h0
  | succ n ih =>
    intro l a w hfree hr hy H
    refine ⟨fun h => (by rw [h] at hr; cases hr), fun j hj => ?_⟩
    by_cases e : j = i
    · rw [e]
      exact hy.wpOp hi (Gr.refl w) ⟨Gr.refl w, H⟩
    · have h1 := H.2 j (ready_mono hj e)
      obtain ⟨hun, oj, hoj, hall⟩ := mem_ready.1 hj
      have hiu := (mem_ready.1 hr).1
      have hnot : ∀ x ∈ oj.after, Region.binds md x = true → x.on ≠ i := by
        intro x hx hb hh
        have hl := hall x hx hb
        rw [hh] at hl
        rcases Nat.lt_or_ge i l.size with hlt | hge
        · simp [hlt] at hiu hl
          rw [hiu] at hl
          cases hl
        · simp [Array.getElem?_eq_none hge] at hl
      have h2 := wpOp_putIf hoj (hfree j oj hoj e hun hnot) (fun cs b => hsel i oi cs b hi) (fun cs b => hsel j oj cs b hoj) hQ hy h1
      refine wpOp_mono (fun a' w' h3 => ⟨h3.2.1, ?_⟩) h2
      refine ih (l.setIfInBounds j true) a' w' (fun k ok hk hki hku hno => ?_) (ready_mono hr (Ne.symm e)) (yieldsIf_mono h3.1 fun _ hg => h3.2.1.trans hg) ?_
      · refine hfree k ok hk hki ?_ hno
        by_cases ejk : j = k
        · rw [← ejk]; exact hun
        · rw [getD_set_ne true ejk] at hku; exact hku
      · rw [Array.setIfInBounds_comm _ _ e]
        exact h3.2.2

/-- Operation number i yields v in every world that this one may grow to: it is taken first. -/
theorem takeG (i : Nat) {lst : List Oper} {oi : Oper} {v : Value} {n : Nat} {l : Array Bool} {a : Act} {w : World} (hi : lst[i]? = some oi)
    (hs : Region.noSelect lst.toArray = true) (hf : Region.free md lst.toArray l i = true) (hr : (Region.ready md lst.toArray l).contains i = true)
    (hQ : ∀ c a w, Q (.panic c) (a.put oi.dst v) w → Q (.panic c) a w) (hy : YieldsIf P lst.toArray (Gr w) oi v a)
    (h : wpAnyG P md lst.toArray Q n (l.setIfInBounds i true) (a.put oi.dst v) w) : wpAnyG P md lst.toArray Q (n + 1) l a w :=
  have hi' : lst.toArray[i]? = some oi := by simpa using hi
  wpAnyG_first hi' (Region.noSelect_spec hs) hQ n l a w (Region.free_spec hi' hf) (by simpa using hr) hy h
/-- Operation number i alone may come up. -/
theorem stepG (i : Nat) {lst : List Oper} {oi : Oper} {n : Nat} {l : Array Bool} {a : Act} {w : World} (hi : lst[i]? = some oi) (hr : Region.ready md lst.toArray l = [i]) (hw : Region.wanted oi (yielded lst.toArray a.tmps) = true)
    (h : ∀ K : Act → World → Prop, (∀ a' w', Gr w w' → wpAnyG P md lst.toArray Q n (l.setIfInBounds i true) a' w' → K a' w') → oi.wp P a w K Q) : wpAnyG P md lst.toArray Q (n + 1) l a w := by
  have hi' : lst.toArray[i]? = some oi := by simpa using hi
  refine ⟨fun h0 => (by rw [hr] at h0; cases h0), fun j hj => ?_⟩
  rw [hr] at hj
  obtain rfl : j = i := by simpa using hj
  unfold wpOp
  simp only [hi', hw, if_true]
  exact .inl (h _ fun a' w' h1 h2 => ⟨h1, h2⟩)
/-- All have come up. -/
theorem doneG {n : Nat} {l : Array Bool} {a : Act} {w : World} (hr : Region.ready md ops l = []) (h : Q .normal a w) : wpAnyG P md ops Q n l a w := by
  cases n with
  | zero => exact ⟨hr, h⟩
  | succ n => exact ⟨fun _ => h, by rw [hr]; simp⟩
/-- The beginning. -/
theorem startG (n : Nat) {id : Nat} {a : Act} {w : World} {l : Array Bool} (hm : P.follows .mixedOrders = true) (hn : ops.size = n) (hl : Array.replicate n false = l) (h : wpAnyG P .any ops Q n l a w.drew) : (Code.region id ops true).wp P Q a w := by
  subst hn; subst hl
  exact wp_region_any hm (wpAny_of_G _ _ _ _ h)
end

end Go.Proofs.Ytjilbgdenolllaa

/-
  Helper text: regions whose order Go leaves open, walked while the cells that are read stay as they were, but for one last operation; no statement is proved here.
-/
import Derived.Test.YtgihpgdjkanodaaGreatDoorRegB
namespace Go.Proofs.YtgihpgdjkanodaaGreatDoor
open Go Go.RowKit

/-- The cells of S are as they were. -/
def Sm (S : Addr → Prop) (w w' : World) : Prop := ∀ a, S a → w'.cell? a = w.cell? a
theorem Sm.refl (S : Addr → Prop) (w : World) : Sm S w w := fun _ _ => rfl
theorem Sm.trans {S : Addr → Prop} {a b c : World} (h : Sm S a b) (k : Sm S b c) : Sm S a c := fun x hx => (k x hx).trans (h x hx)
theorem Sm.at {S : Addr → Prop} {w w' : World} (h : Sm S w w') : ∀ b o, S ⟨b, o, none⟩ → w'.cell? ⟨b, o, none⟩ = w.cell? ⟨b, o, none⟩ := fun b o hx => h ⟨b, o, none⟩ hx

theorem smB {B : Nat} {w w' : World} (hB : B ≤ w.heap.size) (bb : Below w.heap.size w w') : Sm (fun a => a.block < B) w w' := fun a ha => bb.cell (by exact Nat.lt_of_lt_of_le ha hB)
theorem smBelow {B : Nat} {w w' : World} (bb : Below B w w') : Sm (fun a => a.block < B) w w' := fun a ha => bb.cell ha
/-- What holds behind a region, in general. -/
theorem region_inv {P : Program} {Q : Exit → Act → World → Prop} {a : Act} {w : World} {id : Nat} {ops : Array Oper} {fl : Bool} (I : Act → Act → World → Prop)
    (h : (Code.region id ops fl).wp P (fun e a' w' => match e with | .normal => I a a' w' | e => Q e a' w') a w)
    (hr : ∀ a' w', I a a' w' → Q .normal a' w') : (Code.region id ops fl).wp P Q a w :=
  wp_mono h fun e a' w' h => by
    cases e
    case normal => exact hr _ _ h
    all_goals exact h

section
variable {S : Addr → Prop} {T : List Nat} {P : Program} {ops : Array Oper} {Q : Exit → Act → World → Prop} {md : Region.Mode}

/-- Whatever comes up next, and behind it the world has only grown. -/
def wpAnyT (S : Addr → Prop) (T : List Nat) (P : Program) (md : Region.Mode) (ops : Array Oper) (Q : Exit → Act → World → Prop) : Nat → Array Bool → Act → World → Prop
  | 0, l, a, w => Region.ready md ops l = [] ∧ Q .normal a w
  | n + 1, l, a, w => (Region.ready md ops l = [] → Q .normal a w) ∧
      ∀ i ∈ Region.ready md ops l, wpOp P ops Q i (fun a' w' => (i ∈ T ∨ Sm S w w') ∧ wpAnyT S T P md ops Q n (l.setIfInBounds i true) a' w') a w

theorem wpAny_of_T (n : Nat) : ∀ (l : Array Bool) (a : Act) (w : World), wpAnyT S T P md ops Q n l a w → wpAny P md ops Q n l a w := by
  induction n with
  | zero => exact fun _ _ _ h => h
  | succ n ih => exact fun l a w h => ⟨h.1, fun i hi => wpOp_mono (fun a' w' hh => ih _ a' w' hh.2) (h.2 i hi)⟩

theorem wpAnyT_first {i : Nat} {oi : Oper} {v : Value} (hi : ops[i]? = some oi) (hsel : ∀ (j : Nat) (o : Oper) cs b, ops[j]? = some o → o.op ≠ .select cs b)
    (hQ : ∀ c a w, Q (.panic c) (a.put oi.dst v) w → Q (.panic c) a w) (hT : ∀ t ∈ T, ∀ oT, ops[t]? = some oT → ∃ e ∈ oT.after, Region.binds md e = true ∧ e.on = i) (n : Nat) : ∀ (l : Array Bool) (a : Act) (w : World),
      (∀ j oj, ops[j]? = some oj → j ≠ i → l.getD j true = false → (∀ e ∈ oj.after, Region.binds md e = true → e.on ≠ i) → oi.apart ops oj = true) →
      i ∈ Region.ready md ops l → YieldsIf P ops (Sm S w) oi v a → wpAnyT S T P md ops Q n (l.setIfInBounds i true) (a.put oi.dst v) w → wpAnyT S T P md ops Q (n + 1) l a w := by
  induction n with
  | zero =>
    intro l a w _ hr hy H
    refine ⟨fun h => (by rw [h] at hr; cases hr), fun j hj => ?_⟩
    by_cases e : j = i
    · rw [e]
      exact hy.wpOp hi (Sm.refl S w) ⟨.inr (Sm.refl S w), H⟩
    · have h0 := ready_mono hj e
      rw [H.1] at h0
      cases h0
  | succ n ih =>
    intro l a w hfree hr hy H
    refine ⟨fun h => (by rw [h] at hr; cases hr), fun j hj => ?_⟩
    by_cases e : j = i
    · rw [e]
      exact hy.wpOp hi (Sm.refl S w) ⟨.inr (Sm.refl S w), H⟩
    · have h1 := H.2 j (ready_mono hj e)
      obtain ⟨hun, oj, hoj, hall⟩ := mem_ready.1 hj
      have hiu := (mem_ready.1 hr).1
      have hnot : ∀ x ∈ oj.after, Region.binds md x = true → x.on ≠ i := by
        intro x hx hb hh
        have hl := hall x hx hb
        rw [hh] at hl
        rcases Nat.lt_or_ge i l.size with hlt | hge
        · simp [hlt] at hiu hl
          rw [hiu] at hl
          cases hl
        · simp [Array.getElem?_eq_none hge] at hl
      have hjT : ¬ j ∈ T := by
        intro e'
        obtain ⟨x, hx, hb, hon⟩ := hT j e' oj hoj
        exact hnot x hx hb hon
      have h2 := wpOp_putIf hoj (hfree j oj hoj e hun hnot) (fun cs b => hsel i oi cs b hi) (fun cs b => hsel j oj cs b hoj) hQ hy h1
      refine wpOp_mono (fun a' w' h3 => ⟨h3.2.1, ?_⟩) h2
      refine ih (l.setIfInBounds j true) a' w' (fun k ok hk hki hku hno => ?_) (ready_mono hr (Ne.symm e)) (yieldsIf_mono h3.1 fun _ hg => (h3.2.1.resolve_left hjT).trans hg) ?_
      · refine hfree k ok hk hki ?_ hno
        by_cases ejk : j = k
        · rw [← ejk]; exact hun
        · rw [getD_set_ne true ejk] at hku; exact hku
      · rw [Array.setIfInBounds_comm _ _ e]
        exact h3.2.2

/-- Operation number i yields v in every world that this one may grow to: it is taken first. -/
theorem takeT (i : Nat) {lst : List Oper} {oi : Oper} {v : Value} {n : Nat} {l : Array Bool} {a : Act} {w : World} (hi : lst[i]? = some oi)
    (hs : Region.noSelect lst.toArray = true) (hf : Region.free md lst.toArray l i = true) (hr : (Region.ready md lst.toArray l).contains i = true)
    (hQ : ∀ c a w, Q (.panic c) (a.put oi.dst v) w → Q (.panic c) a w) (hT : (T.all fun t => match lst[t]? with | some oT => oT.after.any fun e => Region.binds md e && e.on == i | none => true) = true) (hy : YieldsIf P lst.toArray (Sm S w) oi v a)
    (h : wpAnyT S T P md lst.toArray Q n (l.setIfInBounds i true) (a.put oi.dst v) w) : wpAnyT S T P md lst.toArray Q (n + 1) l a w :=
  have hi' : lst.toArray[i]? = some oi := by simpa using hi
  wpAnyT_first hi' (Region.noSelect_spec hs) hQ (fun t ht oT hoT => by
    have hoT' : lst[t]? = some oT := by simpa using hoT
    have hT' := List.all_eq_true.1 hT t ht
    rw [hoT'] at hT'
    obtain ⟨e, he, hb⟩ := Array.any_eq_true'.1 hT'
    simp only [Bool.and_eq_true, beq_iff_eq] at hb
    exact ⟨e, he, hb.1, hb.2⟩) n l a w (Region.free_spec hi' hf) (by simpa using hr) hy h
/-- .. in every world whatever. -/
theorem wpAnyT_every {i : Nat} {oi : Oper} {v : Value} (hi : ops[i]? = some oi) (hsel : ∀ (j : Nat) (o : Oper) cs b, ops[j]? = some o → o.op ≠ .select cs b)
    (hQ : ∀ c a w, Q (.panic c) (a.put oi.dst v) w → Q (.panic c) a w) (n : Nat) : ∀ (l : Array Bool) (a : Act) (w : World),
      (∀ j oj, ops[j]? = some oj → j ≠ i → l.getD j true = false → (∀ e ∈ oj.after, Region.binds md e = true → e.on ≠ i) → oi.apart ops oj = true) →
      i ∈ Region.ready md ops l → YieldsIf P ops (fun _ => True) oi v a → wpAnyT S T P md ops Q n (l.setIfInBounds i true) (a.put oi.dst v) w → wpAnyT S T P md ops Q (n + 1) l a w := by
  induction n with
  | zero =>
    intro l a w _ hr hy H
    refine ⟨fun h => (by rw [h] at hr; cases hr), fun j hj => ?_⟩
    by_cases e : j = i
    · rw [e]
      exact hy.wpOp hi trivial ⟨.inr (Sm.refl S w), H⟩
    · have h0 := ready_mono hj e
      rw [H.1] at h0
      cases h0
  | succ n ih =>
    intro l a w hfree hr hy H
    refine ⟨fun h => (by rw [h] at hr; cases hr), fun j hj => ?_⟩
    by_cases e : j = i
    · rw [e]
      exact hy.wpOp hi trivial ⟨.inr (Sm.refl S w), H⟩
    · have h1 := H.2 j (ready_mono hj e)
      obtain ⟨hun, oj, hoj, hall⟩ := mem_ready.1 hj
      have hiu := (mem_ready.1 hr).1
      have hnot : ∀ x ∈ oj.after, Region.binds md x = true → x.on ≠ i := by
        intro x hx hb hh
        have hl := hall x hx hb
        rw [hh] at hl
        rcases Nat.lt_or_ge i l.size with hlt | hge
        · simp [hlt] at hiu hl
          rw [hiu] at hl
          cases hl
        · simp [Array.getElem?_eq_none hge] at hl
      have h2 := wpOp_putIf hoj (hfree j oj hoj e hun hnot) (fun cs b => hsel i oi cs b hi) (fun cs b => hsel j oj cs b hoj) hQ hy h1
      refine wpOp_mono (fun a' w' h3 => ⟨h3.2.1, ?_⟩) h2
      refine ih (l.setIfInBounds j true) a' w' (fun k ok hk hki hku hno => ?_) (ready_mono hr (Ne.symm e)) h3.1 ?_
      · refine hfree k ok hk hki ?_ hno
        by_cases ejk : j = k
        · rw [← ejk]; exact hun
        · rw [getD_set_ne true ejk] at hku; exact hku
      · rw [Array.setIfInBounds_comm _ _ e]
        exact h3.2.2

theorem takeW (i : Nat) {lst : List Oper} {oi : Oper} {v : Value} {n : Nat} {l : Array Bool} {a : Act} {w : World} (hi : lst[i]? = some oi)
    (hs : Region.noSelect lst.toArray = true) (hf : Region.free md lst.toArray l i = true) (hr : (Region.ready md lst.toArray l).contains i = true)
    (hQ : ∀ c a w, Q (.panic c) (a.put oi.dst v) w → Q (.panic c) a w) (hy : YieldsIf P lst.toArray (fun _ => True) oi v a)
    (h : wpAnyT S T P md lst.toArray Q n (l.setIfInBounds i true) (a.put oi.dst v) w) : wpAnyT S T P md lst.toArray Q (n + 1) l a w :=
  have hi' : lst.toArray[i]? = some oi := by simpa using hi
  wpAnyT_every hi' (Region.noSelect_spec hs) hQ n l a w (Region.free_spec hi' hf) (by simpa using hr) hy h
/-- Operation number i alone may come up. -/
theorem stepT (i : Nat) {lst : List Oper} {oi : Oper} {n : Nat} {l : Array Bool} {a : Act} {w : World} (hi : lst[i]? = some oi) (hr : Region.ready md lst.toArray l = [i]) (hw : Region.wanted oi (yielded lst.toArray a.tmps) = true)
    (h : ∀ K : Act → World → Prop, (∀ a' w', (i ∈ T ∨ Sm S w w') → wpAnyT S T P md lst.toArray Q n (l.setIfInBounds i true) a' w' → K a' w') → oi.wp P a w K Q) : wpAnyT S T P md lst.toArray Q (n + 1) l a w := by
  have hi' : lst.toArray[i]? = some oi := by simpa using hi
  refine ⟨fun h0 => (by rw [hr] at h0; cases h0), fun j hj => ?_⟩
  rw [hr] at hj
  obtain rfl : j = i := by simpa using hj
  unfold wpOp
  simp only [hi', hw, if_true]
  exact .inl (h _ fun a' w' h1 h2 => ⟨h1, h2⟩)
/-- Any of some operations may come up. -/
theorem stepTA (L : List Nat) {lst : List Oper} {n : Nat} {l : Array Bool} {a : Act} {w : World} (hr : Region.ready md lst.toArray l = L) (hL : L ≠ [])
    (h : ∀ i ∈ L, ∃ oi, lst[i]? = some oi ∧ Region.wanted oi (yielded lst.toArray a.tmps) = true ∧ ∀ K : Act → World → Prop, (∀ a' w', (i ∈ T ∨ Sm S w w') → wpAnyT S T P md lst.toArray Q n (l.setIfInBounds i true) a' w' → K a' w') → oi.wp P a w K Q) : wpAnyT S T P md lst.toArray Q (n + 1) l a w := by
  refine ⟨fun h0 => absurd (hr.symm.trans h0) hL, fun k hk => ?_⟩
  rw [hr] at hk
  obtain ⟨oi, hi, hw, H⟩ := h k hk
  have hi' : lst.toArray[k]? = some oi := by simpa using hi
  unfold wpOp
  simp only [hi', hw, if_true]
  exact .inl (H _ fun a' w' g1 g2 => ⟨g1, g2⟩)
/-- All have come up. -/
theorem doneT {n : Nat} {l : Array Bool} {a : Act} {w : World} (hr : Region.ready md ops l = []) (h : Q .normal a w) : wpAnyT S T P md ops Q n l a w := by
  cases n with
  | zero => exact ⟨hr, h⟩
  | succ n => exact ⟨fun _ => h, by rw [hr]; simp⟩
/-- The beginning. -/
theorem startT (n : Nat) {id : Nat} {a : Act} {w : World} {l : Array Bool} (hm : P.follows .mixedOrders = true) (hn : ops.size = n) (hl : Array.replicate n false = l) (h : wpAnyT S T P .any ops Q n l a w.drew) : (Code.region id ops true).wp P Q a w := by
  subst hn; subst hl
  exact wp_region_any hm (wpAny_of_T _ _ _ _ h)
end

end Go.Proofs.YtgihpgdjkanodaaGreatDoor

/-
  Helper text: how the data of our own machine stand for the model's; no statement is proved here.
-/
import Derived.Test.YtfaocndelibadaaEvA
import Derived.Laws.Cells
namespace Go.Proofs.Ytfaocndelibadaa.Ev
noncomputable section
open Go Go.RowKit

/-- Where a block of ours lies: the block, the place of its first cell, the number of the block's cells. -/
abbrev Sg := Nat → Option (Nat × Nat × Nat)

mutual
def V (σ : Sg) : AV → Value → Prop
  | .bool b, v => v = .bool b
  | .int k n, v => v = .int k n
  | .str s, v => v = .string ⟨⟨s⟩⟩
  | .nilp, v => v = .pointer none
  | .ptr id off, v => ∃ b o n, σ id = some (b, o, n) ∧ v = .pointer (some ⟨b, o + off, none⟩)
  | .nilsl, v => v = .slice none 0 0
  | .sl id off len c, v => ∃ b o n, σ id = some (b, o, n) ∧ ∃ k, v = .slice (some ⟨b, o + off, none⟩) len k ∧
      (match c with
        | .known c => k = c
        | .opn e => len ≤ k ∧ o + off + k * e = n)
  | .esl, v => ∃ a k, v = .slice a 0 k
  | .nsl, v => ∃ a k, v = .slice (some a) 0 k
  | .nilmap, v => v = .map none
  | .mp id, v => ∃ b o n, σ id = some (b, o, n) ∧ v = .map (some b)
  | .func fn x y, v => ∃ x' y', VL σ x x' ∧ VL σ y y' ∧ v = .func fn ⟨x'⟩ ⟨y'⟩
  | .nilFunc, v => v = .nilFunc
  | .iface t x, v => ∃ y, V σ x y ∧ v = .iface t y
  | .nilIface, v => v = .nilIface
  | .agg l, v => ∃ l', VL σ l l' ∧ v = .agg ⟨l'⟩
  | .tup l, v => ∃ l', VL σ l l' ∧ v = .tuple ⟨l'⟩
def VL (σ : Sg) : List AV → List Value → Prop
  | [], vs => vs = []
  | x :: l, vs => ∃ y ys, vs = y :: ys ∧ V σ x y ∧ VL σ l ys
end

def Le (σ τ : Sg) : Prop := ∀ id p, σ id = some p → τ id = some p
theorem Le.refl (σ : Sg) : Le σ σ := fun _ _ h => h
theorem Le.trans {σ τ ρ : Sg} (h : Le σ τ) (k : Le τ ρ) : Le σ ρ := fun _ _ x => k _ _ (h _ _ x)

mutual
theorem V.mono {σ τ : Sg} (h : Le σ τ) : ∀ (a : AV) (v : Value), V σ a v → V τ a v
  | .bool _, _, x => x
  | .int _ _, _, x => x
  | .str _, _, x => x
  | .nilp, _, x => x
  | .ptr _ _, _, ⟨b, o, n, x, y⟩ => ⟨b, o, n, h _ _ x, y⟩
  | .nilsl, _, x => x
  | .sl _ _ _ _, _, ⟨b, o, n, x, y⟩ => ⟨b, o, n, h _ _ x, y⟩
  | .esl, _, x => x
  | .nsl, _, x => x
  | .nilmap, _, x => x
  | .mp _, _, ⟨b, o, n, x, y⟩ => ⟨b, o, n, h _ _ x, y⟩
  | .func _ l m, _, ⟨x, y, p, q, r⟩ => ⟨x, y, VL.mono h l _ p, VL.mono h m _ q, r⟩
  | .nilFunc, _, x => x
  | .iface _ a, _, ⟨y, p, q⟩ => ⟨y, V.mono h a _ p, q⟩
  | .nilIface, _, x => x
  | .agg l, _, ⟨x, p, q⟩ => ⟨x, VL.mono h l _ p, q⟩
  | .tup l, _, ⟨x, p, q⟩ => ⟨x, VL.mono h l _ p, q⟩
theorem VL.mono {σ τ : Sg} (h : Le σ τ) : ∀ (l : List AV) (vs : List Value), VL σ l vs → VL τ l vs
  | [], _, x => x
  | a :: l, _, ⟨y, ys, p, q, r⟩ => ⟨y, ys, p, V.mono h a _ q, VL.mono h l _ r⟩
end

theorem VL.nil (σ : Sg) : VL σ [] [] := rfl
theorem VL.cons {σ : Sg} {a : AV} {v : Value} {l : List AV} {vs : List Value} (h : V σ a v) (k : VL σ l vs) : VL σ (a :: l) (v :: vs) := ⟨v, vs, rfl, h, k⟩

theorem VL_iff {σ : Sg} : ∀ (l : List AV) (vs : List Value), VL σ l vs ↔ l.length = vs.length ∧ ∀ (i : Nat) (a : AV) (v : Value), l[i]? = some a → vs[i]? = some v → V σ a v
  | [], vs => by
    constructor
    · rintro rfl; exact ⟨rfl, fun i a v h => by simp at h⟩
    · rintro ⟨h, _⟩; exact List.length_eq_zero_iff.1 h.symm
  | x :: l, vs => by
    constructor
    · rintro ⟨y, ys, rfl, hx, hl⟩
      obtain ⟨h1, h2⟩ := (VL_iff l ys).1 hl
      refine ⟨by simp [h1], fun i a v ha hv => ?_⟩
      cases i with
      | zero => simp at ha hv; subst ha; subst hv; exact hx
      | succ i => simp at ha hv; exact h2 i a v ha hv
    · rintro ⟨h1, h2⟩
      cases vs with
      | nil => simp at h1
      | cons y ys =>
        exact ⟨y, ys, rfl, h2 0 x y rfl rfl, (VL_iff l ys).2 ⟨by simpa using h1, fun i a v ha hv => h2 (i + 1) a v (by simpa using ha) (by simpa using hv)⟩⟩

theorem VL.length {σ : Sg} {l : List AV} {vs : List Value} (h : VL σ l vs) : l.length = vs.length := ((VL_iff l vs).1 h).1

theorem VL.get {σ : Sg} {l : List AV} {vs : List Value} (h : VL σ l vs) {i : Nat} {a : AV} (ha : l[i]? = some a) : ∃ v, vs[i]? = some v ∧ V σ a v := by
  obtain ⟨h1, h2⟩ := (VL_iff l vs).1 h
  have hi : i < vs.length := by
    rw [← h1]
    rcases Nat.lt_or_ge i l.length with x | x
    · exact x
    · rw [List.getElem?_eq_none x] at ha; simp at ha
  exact ⟨vs[i], by simp [hi], h2 i a _ ha (by simp [hi])⟩

theorem VL.append {σ : Sg} : ∀ {l m : List AV} {vs ws : List Value}, VL σ l vs → VL σ m ws → VL σ (l ++ m) (vs ++ ws)
  | [], _, _, _, h, k => by obtain rfl := h; exact k
  | _ :: _, _, _, _, ⟨_, _, p, q, r⟩, k => by subst p; exact ⟨_, _, rfl, q, VL.append r k⟩

theorem VL.take {σ : Sg} : ∀ {l : List AV} {vs : List Value} (n : Nat), VL σ l vs → VL σ (l.take n) (vs.take n)
  | [], _, n, h => by obtain rfl := h; simp [VL]
  | _ :: _, _, 0, _ => by simp [VL]
  | _ :: _, _, n + 1, ⟨_, _, p, q, r⟩ => by subst p; exact ⟨_, _, rfl, q, VL.take n r⟩

theorem VL.drop {σ : Sg} : ∀ {l : List AV} {vs : List Value} (n : Nat), VL σ l vs → VL σ (l.drop n) (vs.drop n)
  | [], _, n, h => by obtain rfl := h; simp [VL]
  | _ :: _, _, 0, h => h
  | _ :: _, _, n + 1, ⟨_, _, p, q, r⟩ => by subst p; exact VL.drop n r

theorem VL.rep {σ : Sg} {l : List AV} {vs : List Value} (h : VL σ l vs) : ∀ n : Nat, VL σ (Ev.rep n l) (List.replicate n vs).flatten
  | 0 => by simp [Ev.rep, VL]
  | n + 1 => by
    have := VL.append h (VL.rep h n)
    simpa [Ev.rep, List.replicate_succ] using this

theorem V.cells {σ : Sg} {a : AV} {v : Value} (h : V σ a v) : VL σ a.cells v.cells.toList := by
  cases a with
  | agg l => obtain ⟨l', p, rfl⟩ := h; exact p
  | sl i off len c => obtain ⟨b, o, n, _, k, rfl, _⟩ := id h; exact ⟨_, [], rfl, h, rfl⟩
  | ptr => obtain ⟨b, o, n, _, rfl⟩ := id h; exact ⟨_, [], rfl, h, rfl⟩
  | esl => obtain ⟨b, o, rfl⟩ := id h; exact ⟨_, [], rfl, h, rfl⟩
  | nsl => obtain ⟨b, o, rfl⟩ := id h; exact ⟨_, [], rfl, h, rfl⟩
  | mp => obtain ⟨b, o, n, _, rfl⟩ := id h; exact ⟨_, [], rfl, h, rfl⟩
  | func => obtain ⟨x, y, _, _, rfl⟩ := id h; exact ⟨_, [], rfl, h, rfl⟩
  | iface => obtain ⟨y, _, rfl⟩ := id h; exact ⟨_, [], rfl, h, rfl⟩
  | tup => obtain ⟨y, _, rfl⟩ := id h; exact ⟨_, [], rfl, h, rfl⟩
  | _ => obtain rfl := id h; exact ⟨_, [], rfl, h, rfl⟩

theorem V.weak {σ : Sg} {a : AV} {v : Value} (h : V σ a v) : V σ (weakS a) v := by
  unfold weakS
  split
  · obtain ⟨a, k, rfl⟩ := h; exact ⟨_, _, rfl⟩
  · exact h
theorem VL.weak {σ : Sg} : ∀ {l : List AV} {vs : List Value}, VL σ l vs → VL σ (weakL l) vs
  | [], _, h => h
  | _ :: _, _, ⟨y, ys, e, h1, h2⟩ => ⟨y, ys, e, h1.weak, VL.weak h2⟩

theorem ofS_ok {σ : Sg} {v : Value} {a : AV} (h : ofS v = some a) : V σ a v := by
  unfold ofS at h
  split at h <;> simp at h <;> subst h <;> simp [V]

theorem ofL_ok {σ : Sg} : ∀ {vs : List Value} {l : List AV}, ofL vs = some l → VL σ l vs
  | [], l, h => by simp [ofL] at h; subst h; rfl
  | v :: vs, l, h => by
    simp only [ofL] at h
    split at h
    · rename_i a r ha hr
      simp at h; subst h
      exact VL.cons (ofS_ok ha) (ofL_ok hr)
    · simp at h

theorem ofV_ok {σ : Sg} {v : Value} {a : AV} (h : ofV v = some a) : V σ a v := by
  unfold ofV at h
  split at h
  · rename_i cs
    cases hc : ofL cs.toList with
    | none => simp [hc] at h
    | some l => simp [hc] at h; subst h; exact ⟨cs.toList, ofL_ok hc, rfl⟩
  · rename_i cs
    cases hc : ofL cs.toList with
    | none => simp [hc] at h
    | some l => simp [hc] at h; subst h; exact ⟨cs.toList, ofL_ok hc, rfl⟩
  · rename_i t v
    cases hc : ofS v with
    | none => simp [hc] at h
    | some l => simp [hc] at h; subst h; exact ⟨v, ofS_ok hc, rfl⟩
  · exact ofS_ok h

theorem toS_ok {σ : Sg} {v u : Value} {a : AV} (h : toS a = some u) (k : V σ a v) : v = u := by
  unfold toS at h
  split at h <;> simp at h <;> subst h <;> simp [V] at k <;> exact k

theorem toL_ok {σ : Sg} : ∀ {l : List AV} {us vs : List Value}, toL l = some us → VL σ l vs → vs = us
  | [], us, vs, h, k => by simp [toL] at h; subst h; exact k
  | a :: l, us, vs, h, ⟨y, ys, p, q, r⟩ => by
    simp only [toL] at h
    split at h
    · rename_i u r' ha hr
      simp at h; subst h; subst p
      rw [toS_ok ha q, toL_ok hr r]
    · simp at h

theorem toV_ok {σ : Sg} {v u : Value} {a : AV} (h : toV a = some u) (k : V σ a v) : v = u := by
  unfold toV at h
  split at h
  · rename_i cs
    cases hc : toL cs with
    | none => simp [hc] at h
    | some l => simp [hc] at h; subst h; obtain ⟨l', p, rfl⟩ := k; rw [toL_ok hc p]
  · rename_i t x
    cases hc : toS x with
    | none => simp [hc] at h
    | some l => simp [hc] at h; subst h; obtain ⟨y, p, rfl⟩ := k; rw [toS_ok hc p]
  · exact toS_ok h k

theorem pureOf_ok {α : Type} {P : Program} : ∀ {s : Sem α} {a : α} (w : World), pureOf P s = some a → s.run P w = .ok a w
  | .pure _, _, _, h => by simp [pureOf] at h; subst h; rfl
  | .program k, _, w, h => by simp only [pureOf] at h; simp only [Sem.run]; exact pureOf_ok w h
  | .mark _ k, _, w, h => by simp only [pureOf] at h; simp only [Sem.run]; exact pureOf_ok w h
  | .load .., _, _, h => by simp [pureOf] at h
  | .store .., _, _, h => by simp [pureOf] at h
  | .new .., _, _, h => by simp [pureOf] at h
  | .shape .., _, _, h => by simp [pureOf] at h
  | .freeze .., _, _, h => by simp [pureOf] at h
  | .frozen .., _, _, h => by simp [pureOf] at h
  | .getObj .., _, _, h => by simp [pureOf] at h
  | .setObj .., _, _, h => by simp [pureOf] at h
  | .choose .., _, _, h => by simp [pureOf] at h
  | .sys .., _, _, h => by simp [pureOf] at h
  | .halt .., _, _, h => by simp [pureOf] at h

theorem Tr.get_set {α : Type} : ∀ (f : Nat) (t : Tr α) (n : Nat) (v : Option α) (m : Nat) (x : α), (Tr.set f t n v).get m = some x → (m = n ∧ v = some x) ∨ (m ≠ n ∧ t.get m = some x)
  | 0, t, n, v, m, x, h => by simp [Tr.set_none, Tr.set_leaf_zero, Tr.set_leaf_succ, Tr.set_node_zero, Tr.set_node_succ, Tr.get_leaf, Tr.get_zero, Tr.get_succ] at h
  | f + 1, .leaf, 0, v, m, x, h => by
    cases m with
    | zero => simp [Tr.set_none, Tr.set_leaf_zero, Tr.set_leaf_succ, Tr.set_node_zero, Tr.set_node_succ, Tr.get_leaf, Tr.get_zero, Tr.get_succ] at h; exact .inl ⟨rfl, h⟩
    | succ m => simp [Tr.set_none, Tr.set_leaf_zero, Tr.set_leaf_succ, Tr.set_node_zero, Tr.set_node_succ, Tr.get_leaf, Tr.get_zero, Tr.get_succ] at h
  | f + 1, .node u l r, 0, v, m, x, h => by
    cases m with
    | zero => simp [Tr.set_none, Tr.set_leaf_zero, Tr.set_leaf_succ, Tr.set_node_zero, Tr.set_node_succ, Tr.get_leaf, Tr.get_zero, Tr.get_succ] at h; exact .inl ⟨rfl, h⟩
    | succ m => simp only [Tr.set_none, Tr.set_leaf_zero, Tr.set_leaf_succ, Tr.set_node_zero, Tr.set_node_succ, Tr.get_leaf, Tr.get_zero, Tr.get_succ] at h; exact .inr ⟨by omega, by simpa only [Tr.get_leaf, Tr.get_zero, Tr.get_succ] using h⟩
  | f + 1, .leaf, n + 1, v, m, x, h => by
    simp only [Tr.set_none, Tr.set_leaf_zero, Tr.set_leaf_succ, Tr.set_node_zero, Tr.set_node_succ] at h
    cases hn : Nat.beq (n % 2) 0 <;> simp only [hn, cond_true, cond_false] at h
    all_goals
      cases m with
      | zero => simp [Tr.get_leaf, Tr.get_zero, Tr.get_succ] at h
      | succ m =>
        simp only [Tr.get_leaf, Tr.get_zero, Tr.get_succ] at h
        cases hm : Nat.beq (m % 2) 0 <;> simp only [hm, cond_true, cond_false] at h
        all_goals first
          | (simp [Tr.get_leaf, Tr.get_zero, Tr.get_succ] at h; done)
          | (rcases Tr.get_set f _ _ _ _ _ h with ⟨e, k⟩ | ⟨e, k⟩
             · refine .inl ⟨?_, k⟩
               first
                 | (have a := Nat.eq_of_beq_eq_true hn; have b := Nat.eq_of_beq_eq_true hm; omega)
                 | (have a := Nat.ne_of_beq_eq_false hn; have b := Nat.ne_of_beq_eq_false hm; omega)
             · simp [Tr.get_leaf, Tr.get_zero, Tr.get_succ] at k)
  | f + 1, .node u l r, n + 1, v, m, x, h => by
    simp only [Tr.set_none, Tr.set_leaf_zero, Tr.set_leaf_succ, Tr.set_node_zero, Tr.set_node_succ] at h
    cases hn : Nat.beq (n % 2) 0 <;> simp only [hn, cond_true, cond_false] at h
    all_goals
      cases m with
      | zero => simp only [Tr.get_leaf, Tr.get_zero, Tr.get_succ] at h; exact .inr ⟨by omega, by simpa only [Tr.get_leaf, Tr.get_zero, Tr.get_succ] using h⟩
      | succ m =>
        simp only [Tr.get_leaf, Tr.get_zero, Tr.get_succ] at h
        cases hm : Nat.beq (m % 2) 0 <;> simp only [hm, cond_true, cond_false] at h
        all_goals first
          | (rcases Tr.get_set f _ _ _ _ _ h with ⟨e, k⟩ | ⟨e, k⟩
             · refine .inl ⟨?_, k⟩
               first
                 | (have a := Nat.eq_of_beq_eq_true hn; have b := Nat.eq_of_beq_eq_true hm; omega)
                 | (have a := Nat.ne_of_beq_eq_false hn; have b := Nat.ne_of_beq_eq_false hm; omega)
             · refine .inr ⟨by omega, ?_⟩
               simp only [Tr.get_leaf, Tr.get_zero, Tr.get_succ, hm, cond_true, cond_false]; exact k)
          | (refine .inr ⟨?_, ?_⟩
             · first
                 | (have a := Nat.eq_of_beq_eq_true hn; have b := Nat.ne_of_beq_eq_false hm; omega)
                 | (have a := Nat.ne_of_beq_eq_false hn; have b := Nat.eq_of_beq_eq_true hm; omega)
             · simp only [Tr.get_leaf, Tr.get_zero, Tr.get_succ, hm, cond_true, cond_false]; exact h)
end
end Go.Proofs.Ytfaocndelibadaa.Ev

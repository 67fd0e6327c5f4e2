/-
  Helper text: lists of structs with bytes in them; assertions over blocks; no statement is proved here.
-/
import Derived.Test.YtkfkcpogcobmbaaDoorOwnP
import Derived.Deep.MidRow
namespace Go.Proofs.YtkfkcpogcobmbaaDoor
open Go Go.RowKit

/-- How the elements of a list lie: the cells, and which of its parts are bytes. -/
structure Lay (ι : Type) where
  ty : Nat
  sz : Nat
  fc : ι → Option Addr → Nat → List Value
  fd : ι → List UInt8
  len : ∀ s A c, (fc s A c).length = sz
  one : ∀ s A c, ∀ v ∈ fc s A c, v.oneCell' = true

section
variable {ι : Type} {L : Lay ι}
/-- The cells of a list, one element behind the other. -/
def Vs (L : Lay ι) (D : Nat → Prop) (w : World) : List ι → List Value → Prop
  | [], vs => vs = []
  | s :: l, vs => ∃ A c rest, vs = L.fc s A c ++ rest ∧ RdS D w A c (L.fd s) ∧ Vs L D w l rest
theorem Vs.keep {D : Nat → Prop} {w w' : World} (hk : ∀ k, D k → w'.heap[k]? = w.heap[k]?) : ∀ {l : List ι} {vs : List Value}, Vs L D w l vs → Vs L D w' l vs
  | [], _, h => h
  | _ :: _, _, ⟨A, c, rest, e, h1, h2⟩ => ⟨A, c, rest, e, h1.keep hk, Vs.keep hk h2⟩
theorem Vs.mono {D G : Nat → Prop} {w : World} (hk : ∀ k, D k → G k) : ∀ {l : List ι} {vs : List Value}, Vs L D w l vs → Vs L G w l vs
  | [], _, h => h
  | _ :: _, _, ⟨A, c, rest, e, h1, h2⟩ => ⟨A, c, rest, e, h1.mono hk, Vs.mono hk h2⟩
theorem Vs.lt {D : Nat → Prop} {w : World} : ∀ {l : List ι} {vs : List Value}, Vs L D w l vs → Vs L (fun k => D k ∧ k < w.heap.size) w l vs
  | [], _, h => h
  | _ :: _, _, ⟨A, c, rest, e, h1, h2⟩ => ⟨A, c, rest, e, h1.lt, Vs.lt h2⟩
theorem Vs.snoc {D : Nat → Prop} {w : World} {s : ι} {A : Option Addr} {c : Nat} (hr : RdS D w A c (L.fd s)) : ∀ {l : List ι} {vs : List Value}, Vs L D w l vs → Vs L D w (l ++ [s]) (vs ++ L.fc s A c)
  | [], _, h => ⟨A, c, [], by rw [show _ = [] from h]; simp, hr, rfl⟩
  | _ :: _, _, ⟨A', c', rest, e, h1, h2⟩ => ⟨A', c', rest ++ L.fc s A c, by rw [e, List.append_assoc], h1, Vs.snoc hr h2⟩
theorem Vs.length {D : Nat → Prop} {w : World} : ∀ {l : List ι} {vs : List Value}, Vs L D w l vs → vs.length = l.length * L.sz
  | [], _, h => by rw [show _ = [] from h]; simp
  | _ :: l, _, ⟨A, c, rest, e, _, h2⟩ => by rw [e, List.length_append, L.len, Vs.length h2, List.length_cons, Nat.add_mul]; omega
theorem Vs.one {D : Nat → Prop} {w : World} : ∀ {l : List ι} {vs : List Value}, Vs L D w l vs → ∀ v ∈ vs, v.oneCell' = true
  | [], _, h => by rw [show _ = [] from h]; simp
  | s :: _, _, ⟨A, c, rest, e, _, h2⟩ => by
    rw [e]
    intro v hv
    rcases List.mem_append.1 hv with h | h
    · exact L.one s A c v h
    · exact Vs.one h2 v h
/-- The element number j. -/
theorem Vs.at_ {D : Nat → Prop} {w : World} : ∀ {l : List ι} {vs : List Value}, Vs L D w l vs → ∀ j (h : j < l.length), ∃ A c, (∀ i, i < L.sz → vs[j * L.sz + i]? = (L.fc l[j] A c)[i]?) ∧ RdS D w A c (L.fd l[j])
  | [], _, _, j, h => absurd h (by simp)
  | s :: l, _, ⟨A, c, rest, e, h1, h2⟩, 0, h => ⟨A, c, fun i hi => by rw [e, Nat.zero_mul, Nat.zero_add, List.getElem?_append, if_pos (by rw [L.len]; exact hi)]; rfl, h1⟩
  | s :: l, _, ⟨A, c, rest, e, h1, h2⟩, j + 1, h => by
    obtain ⟨A', c', e1, e2⟩ := Vs.at_ h2 j (by simpa using h)
    refine ⟨A', c', fun i hi => ?_, by simpa using e2⟩
    have : (j + 1) * L.sz + i = L.sz + (j * L.sz + i) := by rw [Nat.add_mul]; omega
    rw [this, e, List.getElem?_append_right (by rw [L.len]; omega), L.len, Nat.add_sub_cancel_left]
    simpa using e1 i hi

/-- A list of structs in a row of its own: what it holds lies in the blocks of F, or below N. -/
structure OwnL (L : Lay ι) (N : Nat) (F : Nat → Prop) (w : World) (v : Value) (l : List ι) : Prop where
  ex : ∃ vs D, w.ownsRow N L.ty L.sz v l.length vs ∧ Vs L D w l vs ∧ (∀ k, D k → v.ownBlock ≠ some k) ∧ (∀ k, D k → F k ∨ k < N) ∧ (∀ k, v.ownBlock = some k → F k)
theorem OwnL.nil (N : Nat) (F : Nat → Prop) (w : World) : OwnL L N F w (.slice none 0 0) [] :=
  ⟨[], fun _ => False, ⟨by simp, .inl ⟨rfl, rfl⟩⟩, rfl, fun _ h => h.elim, fun _ h => h.elim, fun _ h => by cases h⟩
theorem OwnL.lt {N : Nat} {F : Nat → Prop} {w : World} {v : Value} {l : List ι} (h : OwnL L N F w v l) : OwnL L N (fun k => F k ∧ k < w.heap.size) w v l := by
  obtain ⟨vs, D, h1, h2, h3, h4, h5⟩ := h
  refine ⟨vs, _, h1, h2.lt, fun k hk => h3 k hk.1, fun k hk => (h4 k hk.1).imp (fun hf => ⟨hf, hk.2⟩) id, fun k hk => ⟨h5 k hk, (h1.lt k hk).2⟩⟩
theorem OwnL.ge {N : Nat} {F : Nat → Prop} {w : World} {v : Value} {l : List ι} (h : OwnL L N F w v l) : ∀ k, v.ownBlock = some k → N ≤ k ∧ k < w.heap.size := by
  obtain ⟨vs, D, h1, _⟩ := h
  exact fun k hk => h1.lt k hk
theorem OwnL.mono {N : Nat} {F G : Nat → Prop} {w : World} {v : Value} {l : List ι} (h : OwnL L N F w v l) (hG : ∀ k, F k → G k) : OwnL L N G w v l := by
  obtain ⟨vs, D, h1, h2, h3, h4, h5⟩ := h
  exact ⟨vs, D, h1, h2, h3, fun k hk => (h4 k hk).imp (hG k) id, fun k hk => hG k (h5 k hk)⟩
theorem OwnL.keep {N : Nat} {F : Nat → Prop} {w w' : World} {v : Value} {l : List ι} (h : OwnL L N F w v l) (hs : w.heap.size ≤ w'.heap.size) (hk : ∀ k, F k ∨ k < N → w'.heap[k]? = w.heap[k]?) : OwnL L N F w' v l := by
  obtain ⟨vs, D, h1, h2, h3, h4, h5⟩ := h
  refine ⟨vs, D, ?_, h2.keep fun k hd => hk k (h4 k hd), h3, h4, h5⟩
  refine ⟨h1.1, h1.2.imp id ?_⟩
  rintro ⟨g, cap, cur, rfl, hg, hh, r⟩
  exact ⟨g, cap, cur, rfl, hg, (hk g (.inl (h5 g rfl))).trans hh, r⟩
theorem OwnL.shape {N : Nat} {F : Nat → Prop} {w : World} {v : Value} {l : List ι} (h : OwnL L N F w v l) : ∃ A c, v = .slice A l.length c ∧ l.length ≤ c ∧ c ≤ 9223372036854775807 := by
  obtain ⟨vs, D, h1, _⟩ := h
  rcases h1.2 with ⟨rfl, h⟩ | ⟨g, cap, cur, rfl, _, _, h1, h2, _⟩
  · exact ⟨none, 0, by rw [h], by omega, by omega⟩
  · exact ⟨_, cap, rfl, h1, by unfold maxLen at h2; omega⟩

/-- A list that is read: its cells lie in a block of F. -/
structure RdL (L : Lay ι) (F : Nat → Prop) (w : World) (A : Option Addr) (c : Nat) (l : List ι) : Prop where
  le : l.length ≤ c
  cap : c ≤ 9223372036854775807
  cells : 0 < l.length → ∃ b off vs, A = some ⟨b, off, none⟩ ∧ F b ∧ Vs L F w l vs ∧ ∀ i, i < l.length * L.sz → w.cell? ⟨b, off + i, none⟩ = vs[i]?
theorem RdL.mono {F G : Nat → Prop} {w : World} {A : Option Addr} {c : Nat} {l : List ι} (h : RdL L F w A c l) (hG : ∀ k, F k → G k) : RdL L G w A c l := ⟨h.le, h.cap, fun hn => by
  obtain ⟨b, off, vs, e, h1, h2, h3⟩ := h.cells hn
  exact ⟨b, off, vs, e, hG b h1, h2.mono hG, h3⟩⟩
theorem RdL.keep {F : Nat → Prop} {w w' : World} {A : Option Addr} {c : Nat} {l : List ι} (h : RdL L F w A c l) (hk : ∀ k, F k → w'.heap[k]? = w.heap[k]?) : RdL L F w' A c l := ⟨h.le, h.cap, fun hn => by
  obtain ⟨b, off, vs, e, h1, h2, h3⟩ := h.cells hn
  exact ⟨b, off, vs, e, h1, h2.keep hk, fun i hi => (World.cell?_of_block (hk b h1)).trans (h3 i hi)⟩⟩
theorem OwnL.rdl {N : Nat} {F : Nat → Prop} {w : World} {v : Value} {l : List ι} (h : OwnL L N F w v l) : ∃ A c, v = .slice A l.length c ∧ RdL L (fun k => F k ∨ k < N) w A c l := by
  obtain ⟨vs, D, h1, h2, h3, h4, h5⟩ := h
  rcases h1.2 with ⟨rfl, h⟩ | ⟨g, cap, cur, rfl, hg, hh, hle, hmx, hcs, ht⟩
  · exact ⟨none, 0, by rw [h], by omega, by omega, fun hn => by omega⟩
  · refine ⟨_, cap, rfl, hle, by unfold maxLen at hmx; omega, fun hn => ⟨g, 0, vs, rfl, .inl (h5 g rfl), h2.mono h4, fun i hi => ?_⟩⟩
    rw [Nat.zero_add, cell_of_row w g i cur L.ty (0, 0) hh, ← ht, List.getElem?_take, if_pos hi, Array.getElem?_toList]

/-- append of one element to a list in a row of its own. -/
theorem OwnL.append {P : Program} {N : Nat} {F : Nat → Prop} {w : World} {v : Value} {l : List ι} (h : OwnL L N F w v l) {t ty : TypeId} (ht : P.underlying t = some (.slice L.ty)) {z : Value} {by_ : Nat}
    (hinf : (P.info? L.ty).map (fun i => (i.zero, i.size, i.bytes)) = some (some z, L.sz, by_)) (hz : z.cells.size = L.sz) (hpos : 0 < L.sz) (hby : by_ ≤ 100) (s : ι) (A : Option Addr) (c : Nat) {G : Nat → Prop} (hr : RdS G w A c (L.fd s)) (hG : ∀ k, G k → v.ownBlock ≠ some k)
    (g1 : Nat) (hc : w.heap[g1]? = some (.cells (L.fc s A c).toArray L.ty (0, 0))) (hl : l.length ≤ 1000000) (hN : N ≤ w.heap.size) :
    ∃ v' w', (Builtin.append_ #[t, t] ty #[v, .slice (some ⟨g1, 0, none⟩) 1 1]).run P w = .ok v' w' ∧ OwnL L N (fun k => F k ∨ G k ∨ (w.heap.size ≤ k ∧ k < w'.heap.size)) w' v' (l ++ [s]) ∧ w.grownBy w' v.ownBlock ∧
      (v'.ownBlock = v.ownBlock ∨ v'.ownBlock = some w.heap.size) := by
  obtain ⟨vs, D, h1, h2, h3, h4, h5⟩ := h
  obtain ⟨i0, hi, hz0, hz1, hz2⟩ := info_parts hinf
  obtain ⟨v', w', e0, e1, e2, _, e4⟩ := run_append_own_at (P := P) w N t ty L.ty i0 z L.sz by_ ht hi hz0 hz1 hz2 hz hpos v l.length vs h1 ⟨g1, 0, none⟩ 1 1 (L.fc s A c) (by rw [L.len]; omega)
    (fun j u hj => by
      rw [Go.WideShapes.add_plain, Nat.zero_add, cell_of_row w g1 j _ L.ty (0, 0) hc]
      simpa using hj) (L.one s A c) (by unfold maxLen; omega) (by have : (l.length + 1) * by_ ≤ 1000001 * 100 := Nat.mul_le_mul (by omega) hby; omega) hN
  have hlt := h2.lt
  have hrl := hr.lt
  have hk1 : ∀ k, D k ∧ k < w.heap.size → w'.heap[k]? = w.heap[k]? := fun k hk => e2.block k hk.2 (fun e => h3 k hk.1 e.symm)
  have hk2 : ∀ k, G k ∧ k < w.heap.size → w'.heap[k]? = w.heap[k]? := fun k hk => e2.block k hk.2 (fun e => hG k hk.1 e.symm)
  refine ⟨v', w', e0, ⟨vs ++ L.fc s A c, fun k => (D k ∧ k < w.heap.size) ∨ (G k ∧ k < w.heap.size), by simpa using e1, Vs.snoc ((hrl.keep hk2).mono fun k hk => .inr hk) ((hlt.keep hk1).mono fun k hk => .inl hk), ?_, ?_, ?_⟩, e2, e4⟩
  · intro k hk
    have hlt : k < w.heap.size := hk.elim (·.2) (·.2)
    rcases e4 with e | e
    · rw [e]; exact hk.elim (fun h => h3 k h.1) (fun h => hG k h.1)
    · rw [e]; intro e'; injection e' with e'; omega
  · intro k hk
    rcases hk with hk | hk
    · exact (h4 k hk.1).imp .inl id
    · exact .inl (.inr (.inl hk.1))
  · intro k hk
    rcases e4 with e | e
    · exact .inl (h5 k (e.symm.trans hk))
    · rw [e] at hk
      injection hk with hk
      subst hk
      exact .inr (.inr ⟨Nat.le_refl _, (e1.lt _ e).2⟩)
end

/-- What holds of memory in the blocks of F, and below N. -/
structure Asr (N : Nat) where
  holds : (Nat → Prop) → World → Prop
  ge : ∀ {F w}, holds F w → ∀ k, F k → N ≤ k ∧ k < w.heap.size
  loc : ∀ {F w w'}, holds F w → w.heap.size ≤ w'.heap.size → (∀ k, F k ∨ k < N → w'.heap[k]? = w.heap[k]?) → holds F w'
theorem Asr.mv {N : Nat} {A : Asr N} {F S S' : Nat → Prop} {w w' : World} (h : A.holds F w) (hm : Mv S w S' w') (hd : ∀ k, F k → ¬ S k) (hS : ∀ k, S k → N ≤ k) (hN : N ≤ w.heap.size) : A.holds F w' :=
  A.loc h hm.size fun k hk => hk.elim (fun hf => hm.keep k (A.ge h k hf).2 (hd k hf)) (fun hl => hm.keep k (by omega) fun hs => by have := hS k hs; omega)
theorem Asr.below {N : Nat} {A : Asr N} {F : Nat → Prop} {w w' : World} (h : A.holds F w) (hb : Below w.heap.size w w') (hN : N ≤ w.heap.size) : A.holds F w' :=
  A.loc h hb.size fun k hk => hb.block k (hk.elim (fun hf => (A.ge h k hf).2) (fun hl => by omega))
/-- Both, apart from each other. -/
def Asr.sep {N : Nat} (A B : Asr N) : Asr N where
  holds S w := ∃ F G, A.holds F w ∧ B.holds G w ∧ (∀ k, F k → ¬ G k) ∧ ∀ k, S k ↔ F k ∨ G k
  ge := fun ⟨F, G, h1, h2, _, h4⟩ k hk => ((h4 k).1 hk).elim (A.ge h1 k) (B.ge h2 k)
  loc := fun ⟨F, G, h1, h2, h3, h4⟩ hs hk => ⟨F, G, A.loc h1 hs fun k hf => hk k (hf.imp (fun h => (h4 k).2 (.inl h)) id), B.loc h2 hs fun k hf => hk k (hf.imp (fun h => (h4 k).2 (.inr h)) id), h3, h4⟩
/-- A step of the first one. -/
theorem Asr.sep_left {N : Nat} {A A' B : Asr N} {F G F' : Nat → Prop} {w w' : World} (h1 : A.holds F w) (h2 : B.holds G w) (hd : ∀ k, F k → ¬ G k) (h3 : A'.holds F' w') (hm : Mv F w F' w') (hN : N ≤ w.heap.size) :
    (A'.sep B).holds (fun k => F' k ∨ G k) w' ∧ Mv (fun k => F k ∨ G k) w (fun k => F' k ∨ G k) w' := by
  have hg : ∀ k, G k → k < w.heap.size ∧ ¬ F k := fun k hk => ⟨(B.ge h2 k hk).2, fun hf => hd k hf hk⟩
  exact ⟨⟨F', G, h3, Asr.mv h2 hm (fun k hk => (hg k hk).2) (fun k hk => (A.ge h1 k hk).1) hN, fun k hk hgk => (hm.new k hk).elim (fun hf => hd k hf hgk) (fun hle => by have := (hg k hgk).1; omega), fun _ => Iff.rfl⟩, hm.frame hg⟩
theorem Asr.sep_right {N : Nat} {A B B' : Asr N} {F G G' : Nat → Prop} {w w' : World} (h1 : A.holds F w) (h2 : B.holds G w) (hd : ∀ k, F k → ¬ G k) (h3 : B'.holds G' w') (hm : Mv G w G' w') (hN : N ≤ w.heap.size) :
    (A.sep B').holds (fun k => F k ∨ G' k) w' ∧ Mv (fun k => F k ∨ G k) w (fun k => F k ∨ G' k) w' := by
  have hg : ∀ k, F k → k < w.heap.size ∧ ¬ G k := fun k hk => ⟨(A.ge h1 k hk).2, hd k hk⟩
  have hf := hm.frame hg
  refine ⟨⟨F, G', Asr.mv h1 hm (fun k hk => (hg k hk).2) (fun k hk => (B.ge h2 k hk).1) hN, h3, fun k hk hgk => (hm.new k hgk).elim (fun h => hd k hk h) (fun hle => by have := (hg k hk).1; omega), fun _ => Iff.rfl⟩, ?_⟩
  exact ⟨hf.os, hf.tape, hf.output, hf.size, fun k hk hn => hf.keep k hk fun h => hn h.symm, fun k hk => (hf.new k hk.symm).imp Or.symm id⟩
/-- The footprint as a predicate may be written otherwise. -/
theorem Asr.sep_eq {N : Nat} {A B : Asr N} {S : Nat → Prop} {w : World} (h : (A.sep B).holds S w) : ∃ F G, A.holds F w ∧ B.holds G w ∧ (∀ k, F k → ¬ G k) ∧ S = fun k => F k ∨ G k := by
  obtain ⟨F, G, h1, h2, h3, h4⟩ := h
  exact ⟨F, G, h1, h2, h3, funext fun k => propext (h4 k)⟩

end Go.Proofs.YtkfkcpogcobmbaaDoor

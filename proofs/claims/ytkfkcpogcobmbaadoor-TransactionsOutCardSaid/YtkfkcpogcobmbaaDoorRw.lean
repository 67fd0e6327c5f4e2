/-
  Helper text: lists of the reference's world; no statement is proved here.
-/
import Derived.Test.YtkfkcpogcobmbaaDoorWir
namespace Go.Proofs.YtkfkcpogcobmbaaDoor
open Go Go.RowKit

section
variable {P : Program} {ops : Array Oper} {rest : List Oper} {o : Oper} {a : Act} {w : World} {Q : Exit → Act → World → Prop} {K : Act → World → Prop}
/-- One cell of a block is stored: only its block changes. -/
theorem wp_storeC {ty : TypeId} (x y : Operand) (ho : o.op = .store ty x y) (g i : Nat) (hx : a.eval x = .pointer (some ⟨g, i, none⟩)) (u : Value) (hy : a.eval y = u) (h1 : u.oneCell' = true) (hsz : (P.info? ty).map (·.size) = some 1)
    {t : Nat} {cs : Array Value} (hg : w.heap[g]? = some (.cells cs t (0, 0))) (hi : i < cs.size)
    (h : ∀ w', w'.heap[g]? = some (.cells (cs.setIfInBounds i u) t (0, 0)) → w.grownBy w' (some g) → w'.heap.size = w.heap.size → K (a.put o.dst undef) w') : o.wp P a w K Q := by
  have hcell : w.cell? ⟨g, i, none⟩ = some cs[i] := block_at hg (Array.getElem?_eq_getElem hi)
  have hc : u.cells = #[u] := by cases u <;> first | rfl | (simp [Value.oneCell'] at h1; done)
  have := run_storeCells_cells (P := P) g i [u] 0 w (fun j hj => by
    have : j = 0 := by simpa using hj
    subst this
    simp [hcell]) (fun j _ => by simp [World.frozen?, hg]) (fun v hv => by
    have : v = u := by simpa using hv
    subst this
    exact h1)
  have hrun : (storeVar ty ⟨g, i, none⟩ u).run P w = .ok () (w.setCell ⟨g, i, none⟩ u) := by
    cases hq : P.info? ty with
    | none => simp [hq] at hsz
    | some j =>
      have hs : j.size = 1 := by simpa [hq] using hsz
      simp only [Nat.add_zero] at this
      simp [storeVar, sizeOf, typeInfo, hq, hc, hs, this]
      rfl
  unfold Oper.wp execOp
  simp only [ho, hx, hy, Instr.storeAt, Instr.sureAddr, Sem.run_bind, Sem.run_pure, Result.andThen_ok, hrun]
  refine h _ (block_set hg i u) ⟨rfl, rfl, rfl, by simp [World.setCell], fun k hk hne => ?_⟩ (by simp [World.setCell])
  exact Below.heap_setCell w ⟨g, i, none⟩ u k (fun e => hne (by rw [e]))
theorem wpl_storeC {ty : TypeId} (hgd : o.guard = none) (x y : Operand) (ho : o.op = .store ty x y) (g i : Nat) (hx : a.eval x = .pointer (some ⟨g, i, none⟩)) (u : Value) (hy : a.eval y = u) (h1 : u.oneCell' = true) (hsz : (P.info? ty).map (·.size) = some 1)
    {t : Nat} {cs : Array Value} (hg : w.heap[g]? = some (.cells cs t (0, 0))) (hi : i < cs.size)
    (h : ∀ w', w'.heap[g]? = some (.cells (cs.setIfInBounds i u) t (0, 0)) → w.grownBy w' (some g) → w'.heap.size = w.heap.size → wpList P ops Q rest (a.put o.dst undef) w') : wpList P ops Q (o :: rest) a w :=
  wpList_plain hgd fun _ hK => wp_storeC x y ho g i hx u hy h1 hsz hg hi fun w' e1 e2 e3 => hK _ _ (h w' e1 e2 e3)
end

/-- Below hi nothing changes; what is read lies below lo, too. -/
structure Bd where
  hi : Nat
  lo : Nat
instance : Coe Bd Nat := ⟨Bd.hi⟩
section
variable {ι : Type} {L : Lay ι}
/-- A list in a row of its own; the bytes of its elements lie below N. -/
def OwnB (L : Lay ι) (N : Bd) (w : World) (v : Value) (l : List ι) : Prop := ∃ vs, w.ownsRow N L.ty L.sz v l.length vs ∧ Vs L (fun k => k < N.lo ∧ k < N.hi) w l vs
theorem OwnB.nil (N : Bd) (w : World) : OwnB L N w (.slice none 0 0) [] := ⟨[], ⟨by simp, .inl ⟨rfl, rfl⟩⟩, rfl⟩
theorem OwnB.lt {N : Bd} {w : World} {v : Value} {l : List ι} (h : OwnB L N w v l) : ∀ k, v.ownBlock = some k → N ≤ k ∧ k < w.heap.size := by
  obtain ⟨vs, h1, _⟩ := h
  exact fun k hk => h1.lt k hk
theorem OwnB.keep {N : Bd} {w w' : World} {v : Value} {l : List ι} (h : OwnB L N w v l) (hk : ∀ k, k < N.hi ∨ v.ownBlock = some k → w'.heap[k]? = w.heap[k]?) : OwnB L N w' v l := by
  obtain ⟨vs, h1, h2⟩ := h
  refine ⟨vs, ⟨h1.1, h1.2.imp id ?_⟩, h2.keep fun k hd => hk k (.inl hd.2)⟩
  rintro ⟨g, cap, cur, rfl, hg, hh, r⟩
  exact ⟨g, cap, cur, rfl, hg, (hk g (.inr rfl)).trans hh, r⟩
theorem OwnB.below {N : Bd} {w w' : World} {v : Value} {l : List ι} (h : OwnB L N w v l) (hb : Below w.heap.size w w') (hN : N ≤ w.heap.size) : OwnB L N w' v l :=
  h.keep fun k hk => hb.block k (hk.elim (fun h => by omega) (fun e => (h.lt k e).2))
theorem OwnB.grown {N : Bd} {w w' : World} {v : Value} {l : List ι} {r : Option Nat} (h : OwnB L N w v l) (hg : w.grownBy w' r) (hne : ∀ k, v.ownBlock = some k → some k ≠ r) (hr : ∀ k, r = some k → N ≤ k) (hN : N ≤ w.heap.size) : OwnB L N w' v l :=
  h.keep fun k hk => hk.elim (fun hl => hg.block k (by omega) (fun e => by have := hr k e.symm; omega)) (fun e => hg.block k (h.lt k e).2 (hne k e))
theorem OwnB.shape {N : Bd} {w : World} {v : Value} {l : List ι} (h : OwnB L N w v l) : ∃ A c, v = .slice A l.length c ∧ l.length ≤ c ∧ c ≤ 9223372036854775807 := by
  obtain ⟨vs, h1, _⟩ := h
  rcases h1.2 with ⟨rfl, h⟩ | ⟨g, cap, cur, rfl, _, _, h1, h2, _⟩
  · exact ⟨none, 0, by rw [h], by omega, by omega⟩
  · exact ⟨_, cap, rfl, h1, by unfold maxLen at h2; omega⟩
theorem OwnB.rdl {N : Bd} {w : World} {A : Option Addr} {n c : Nat} {l : List ι} (h : OwnB L N w (.slice A n c) l) : RdL L (fun k => (k < N.lo ∧ k < N.hi) ∨ (Value.slice A n c).ownBlock = some k) w A c l := by
  obtain ⟨vs, h1, h2⟩ := h
  rcases h1.2 with ⟨e, h⟩ | ⟨g, cap, cur, e, hg, hh, hle, hmx, hcs, ht⟩
  · injection e with e1 e2 e3
    subst e1; subst e3
    exact ⟨by omega, by omega, fun hn => by omega⟩
  · injection e with e1 e2 e3
    subst e1; subst e3
    refine ⟨hle, by unfold maxLen at hmx; omega, fun hn => ⟨g, 0, vs, rfl, .inr rfl, h2.mono fun k hk => .inl hk, fun i hi => ?_⟩⟩
    rw [Nat.zero_add, cell_of_row w g i cur L.ty (0, 0) hh, ← ht, List.getElem?_take, if_pos hi, Array.getElem?_toList]
theorem OwnB.append {P : Program} {N : Bd} {w : World} {v : Value} {l : List ι} (h : OwnB L N w v l) {t ty : TypeId} (ht : P.underlying t = some (.slice L.ty)) {z : Value} {by_ : Nat}
    (hinf : (P.info? L.ty).map (fun i => (i.zero, i.size, i.bytes)) = some (some z, L.sz, by_)) (hz : z.cells.size = L.sz) (hpos : 0 < L.sz) (hby : by_ ≤ 100) (s : ι) (A : Option Addr) (c : Nat) (hr : RdS (fun k => k < N.lo ∧ k < N.hi) w A c (L.fd s))
    (g1 : Nat) (hc : w.heap[g1]? = some (.cells (L.fc s A c).toArray L.ty (0, 0))) (hl : l.length ≤ 1000000) (hN : N ≤ w.heap.size) :
    ∃ v' w', (Builtin.append_ #[t, t] ty #[v, .slice (some ⟨g1, 0, none⟩) 1 1]).run P w = .ok v' w' ∧ OwnB L N w' v' (l ++ [s]) ∧ w.grownBy w' v.ownBlock ∧ (v'.ownBlock = v.ownBlock ∨ v'.ownBlock = some w.heap.size) := by
  have hlt := h.lt
  obtain ⟨vs, h1, h2⟩ := h
  obtain ⟨i0, hi, hz0, hz1, hz2⟩ := info_parts hinf
  obtain ⟨v', w', e0, e1, e2, _, e4⟩ := run_append_own_at (P := P) w N t ty L.ty i0 z L.sz by_ ht hi hz0 hz1 hz2 hz hpos v l.length vs h1 ⟨g1, 0, none⟩ 1 1 (L.fc s A c) (by rw [L.len]; omega)
    (fun j u hj => by
      rw [Go.WideShapes.add_plain, Nat.zero_add, cell_of_row w g1 j _ L.ty (0, 0) hc]
      simpa using hj) (L.one s A c) (by unfold maxLen; omega) (by have : (l.length + 1) * by_ ≤ 1000001 * 100 := Nat.mul_le_mul (by omega) hby; omega) hN
  have hk : ∀ k, k < N.hi → w'.heap[k]? = w.heap[k]? := fun k hk => e2.block k (by omega) (fun e => by have := (hlt k e.symm).1; omega)
  exact ⟨v', w', e0, ⟨vs ++ L.fc s A c, by simpa using e1, Vs.snoc (hr.keep fun k h => hk k h.2) (h2.keep fun k h => hk k h.2)⟩, e2, e4⟩
end
/-- append at the operation. -/
theorem wpl_appendB {ι : Type} {L : Lay ι} {P : Program} {ops : Array Oper} {rest : List Oper} {o : Oper} {a : Act} {Q : Exit → Act → World → Prop} {w : World} {N : Bd} {v : Value} {l : List ι} (h : OwnB L N w v l)
    {t : TypeId} (ht : P.underlying t = some (.slice L.ty)) {z : Value} {by_ : Nat} (hinf : (P.info? L.ty).map (fun i => (i.zero, i.size, i.bytes)) = some (some z, L.sz, by_)) (hz : z.cells.size = L.sz) (hpos : 0 < L.sz) (hby : by_ ≤ 100)
    (hgd : o.guard = none) (sl x : Operand) (ho : o.op = .call { callee := .builtin .append, args := #[sl, x], argTypes := #[t, t] }) (hs : a.eval sl = v) (s : ι) (A : Option Addr) (c : Nat) (hr : RdS (fun k => k < N.lo ∧ k < N.hi) w A c (L.fd s))
    (g1 : Nat) (hc : w.heap[g1]? = some (.cells (L.fc s A c).toArray L.ty (0, 0))) (hx : a.eval x = .slice (some ⟨g1, 0, none⟩) 1 1) (hl : l.length ≤ 1000000) (hN : N ≤ w.heap.size)
    (hk : ∀ A' c' w', OwnB L N w' (.slice A' (l ++ [s]).length c') (l ++ [s]) → w.grownBy w' v.ownBlock → ((Value.slice A' (l ++ [s]).length c').ownBlock = v.ownBlock ∨ (Value.slice A' (l ++ [s]).length c').ownBlock = some w.heap.size) →
      wpList P ops Q rest (a.put o.dst (.slice A' (l ++ [s]).length c')) w') : wpList P ops Q (o :: rest) a w := by
  obtain ⟨v', w', e0, e1, e2, e3⟩ := h.append (P := P) (ty := o.type) ht hinf hz hpos hby s A c hr g1 hc hl hN
  obtain ⟨A', c', rfl, _⟩ := e1.shape
  refine wpList_plain hgd fun K hK => ?_
  unfold Oper.wp execOp
  simp only [ho, resolve, invoke, builtin, Sem.run_bind, Sem.run_pure, Result.andThen_ok, List.map_toArray, List.map_cons, List.map_nil, hs, hx, e0]
  exact hK _ _ (hk A' c' w' e1 e2 e3)

/-- What is still to come, and what has happened. -/
structure Rw where
  ans : List Pkt
  flt : List UInt8
  heard : List Pkt
  sent : List SentP
/-- The reference's world as a value; its lists lie in rows of their own. -/
def rwA (N : Bd) (v : Value) (x : Rw) : Asr N where
  holds F w := ∃ Aa ca Af cf A2 c2 A3 c3, v = .agg #[.slice Aa x.ans.length ca, .slice Af x.flt.length cf, .slice A2 x.heard.length c2, .slice A3 x.sent.length c3] ∧ RdL layPk (fun k => k < N.lo ∧ k < N.hi) w Aa ca x.ans ∧ RdS (fun k => k < N.hi) w Af cf x.flt ∧
    OwnB layPk N w (.slice A2 x.heard.length c2) x.heard ∧ OwnB laySn N w (.slice A3 x.sent.length c3) x.sent ∧ (∀ k, (Value.slice A2 x.heard.length c2).ownBlock = some k → (Value.slice A3 x.sent.length c3).ownBlock ≠ some k) ∧
    ∀ k, F k ↔ (Value.slice A2 x.heard.length c2).ownBlock = some k ∨ (Value.slice A3 x.sent.length c3).ownBlock = some k
  ge := fun ⟨_, _, _, _, _, _, _, _, _, _, _, h1, h2, _, h3⟩ k hk => ((h3 k).1 hk).elim (h1.lt k) (h2.lt k)
  loc := fun ⟨Aa, ca, Af, cf, A2, c2, A3, c3, e, h1, h2, h3, h4, h5, h6⟩ _ hk => ⟨Aa, ca, Af, cf, A2, c2, A3, c3, e, h1.keep fun k h => hk k (.inr h.2), h2.keep fun k h => hk k (.inr h), h3.keep fun k h => hk k (h.elim .inr fun e => .inl ((h6 k).2 (.inl e))), h4.keep fun k h => hk k (h.elim .inr fun e => .inl ((h6 k).2 (.inr e))), h5, h6⟩
theorem flatRw : Flat Tryd.prog 67 4 := ⟨_, Tryd.underlying67, by kernel_rfl⟩

end Go.Proofs.YtkfkcpogcobmbaaDoor

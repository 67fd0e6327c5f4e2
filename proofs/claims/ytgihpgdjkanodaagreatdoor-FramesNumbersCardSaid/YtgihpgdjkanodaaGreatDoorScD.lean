/-
  Helper text, several in one; no statement is proved here.
-/
import Derived.Test.YtgihpgdjkanodaaGreatDoorRsA
import Derived.Test.YtgihpgdjkanodaaGreatDoorLvA
namespace Go.Proofs.YtgihpgdjkanodaaGreatDoor
open Go Go.RowKit

/-- The device: its answers, and what it has heard. -/
def hearS (s : List Pkt × List Pkt) (p : Pkt) : (List Pkt × List Pkt) × Pkt × Bool :=
  match s.1 with
  | [] => (([], s.2 ++ [p]), zeroP, false)
  | a :: al => ((al, s.2 ++ [p]), a, a.pid != 0)
theorem wp_appendL {ι : Type} {L : Lay ι} {P : Program} {o : Oper} {a : Act} {Q : Exit → Act → World → Prop} {K : Act → World → Prop} {w : World} {N : Nat} {F : Nat → Prop} {v : Value} {l : List ι} (h : OwnL L N F w v l)
    {t : TypeId} (ht : P.underlying t = some (.slice L.ty)) {z : Value} {by_ : Nat} (hinf : (P.info? L.ty).map (fun i => (i.zero, i.size, i.bytes)) = some (some z, L.sz, by_)) (hz : z.cells.size = L.sz) (hpos : 0 < L.sz) (hby : by_ ≤ 100)
    (sl x : Operand) (ho : o.op = .call { callee := .builtin .append, args := #[sl, x], argTypes := #[t, t] }) (hs : a.eval sl = v) (s : ι) (A : Option Addr) (c : Nat) {G : Nat → Prop} (hr : RdS G w A c (L.fd s)) (hG : ∀ k, G k → v.ownBlock ≠ some k)
    (g1 : Nat) (hc : w.heap[g1]? = some (.cells (L.fc s A c).toArray L.ty (0, 0))) (hx : a.eval x = .slice (some ⟨g1, 0, none⟩) 1 1) (hl : l.length ≤ 1000000) (hN : N ≤ w.heap.size)
    (hk : ∀ v' w', OwnL L N (fun k => F k ∨ G k ∨ (w.heap.size ≤ k ∧ k < w'.heap.size)) w' v' (l ++ [s]) → w.grownBy w' v.ownBlock → K (a.put o.dst v') w') : o.wp P a w K Q := by
  obtain ⟨v', w', e0, e1, e2, _⟩ := h.append (P := P) (ty := o.type) ht hinf hz hpos hby s A c hr hG g1 hc hl hN
  unfold Oper.wp execOp
  simp only [ho, resolve, invoke, builtin, Sem.run_bind, Sem.run_pure, Result.andThen_ok, List.map_toArray, List.map_cons, List.map_nil, hs, hx, e0]
  exact hk v' w' e1 e2
theorem sm_own {S : Addr → Prop} {w w' : World} {r : Option Nat} (hg : w.grownBy w' r) (hS : ∀ a, S a → a.block < w.heap.size ∧ some a.block ≠ r) : Sm S w w' := fun a ha => World.cell?_of_block (hg.block _ (hS a ha).1 (hS a ha).2)

end Go.Proofs.YtgihpgdjkanodaaGreatDoor

namespace Go.Proofs.YtgihpgdjkanodaaGreatDoor
open Go Go.RowKit

/-- What was heard was sent. -/
def scJ (s : List Pkt × List Pkt) (l : List SentP) : Prop := s.2.length ≤ l.length
theorem hearS_len (s : List Pkt × List Pkt) (p : Pkt) : (hearS s p).1.2.length = s.2.length + 1 := by
  obtain ⟨al, hd⟩ := s
  cases al <;> simp [hearS]
theorem sc_askJ {τ : Type} (next : τ → τ × Nat) : AskJ (askR hearS next) scJ where
  add := fun s l y h => by show s.2.length ≤ (l ++ [y]).length; rw [List.length_append]; exact Nat.le_succ_of_le h
  ask := fun s t l y p h => by
    have h' : s.2.length ≤ l.length := h
    have hl := hearS_len s p
    unfold askR
    split
    · show (hearS s p).1.2.length ≤ ((l ++ [y]) ++ _).length
      simp; omega
    · show (hearS s p).1.2.length ≤ (l ++ [y]).length
      simp; omega
theorem sameB_refl (a : Rg) (xs : List UInt8) : sameB a a xs xs = true := by simp [sameB]
theorem sameB_pk (p : Pkt) (u v : Value) : sameB (p.rg u) (p.rg v) p.data p.data = true := by simp [sameB, Pkt.rg]
theorem differ_same (X : World) (p : Pkt) (A1 A2 : Option Addr) (c1 c2 : Nat) (h1 : RdS (fun _ => True) X A1 c1 p.data) (h2 : RdS (fun _ => True) X A2 c2 p.data) :
    Calls Tryz.prog 19 #[pkV p A1 c1, pkV p A2 c2] X (ResV X (.int .i64 0)) := by
  have := differ_any X (p.rg (.slice A1 p.data.length c1)) (p.rg (.slice A2 p.data.length c2)) A1 A2 c1 c2 _ _ h1.rdT h2.rdT rfl rfl
  rw [sameB_pk] at this
  exact this
/-- The element number j of a list that is read. -/
theorem RdL.elem {ι : Type} {L : Lay ι} {F : Nat → Prop} {w : World} {A : Option Addr} {c : Nat} {l : List ι} (h : RdL L F w A c l) (j : Nat) (hj : j < l.length) :
    ∃ b off A1 c1, A = some ⟨b, off, none⟩ ∧ F b ∧ w.rangeAt b (off + j * L.sz) (L.fc l[j] A1 c1) ∧ RdS F w A1 c1 (L.fd l[j]) := by
  obtain ⟨b, off, vs, rfl, hb, hv, hc⟩ := h.cells (by omega)
  obtain ⟨A1, c1, h1, h2⟩ := hv.at_ j hj
  refine ⟨b, off, A1, c1, rfl, hb, fun i v hi => ?_, h2⟩
  have hil : i < L.sz := by have := (List.getElem?_eq_some_iff.1 hi).1; rwa [L.len] at this
  rw [Nat.add_assoc, hc _ (by have : (j + 1) * L.sz ≤ l.length * L.sz := Nat.mul_le_mul_right _ hj; rw [Nat.add_mul] at this; omega), h1 i hil]
  exact hi
theorem range_below {w W : World} {S : Addr → Prop} (h : Sm S w W) {b o : Nat} {cs : List Value} (hS : ∀ j, S ⟨b, o + j, none⟩) (hr : w.rangeAt b o cs) : W.rangeAt b o cs := fun j v hj => (h _ (hS j)).trans (hr j v hj)

theorem smBlk {w W : World} {b1 b2 : Nat} (hb : Below w.heap.size w W) (h1 : b1 < w.heap.size) (h2 : b2 < w.heap.size) : Sm (fun a => a.block = b1 ∨ a.block = b2) w W := fun a ha => hb.cell (by rcases ha with h | h <;> omega)

end Go.Proofs.YtgihpgdjkanodaaGreatDoor


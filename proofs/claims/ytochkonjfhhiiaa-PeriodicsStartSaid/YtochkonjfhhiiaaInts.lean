/-
  Helper text: slices of numbers that read as lists; no statement is proved here.
-/
import Derived.Test.YtochkonjfhhiiaaReg
import Derived.Test.YtochkonjfhhiiaaProg
import Derived.Test.YtochkonjfhhiiaaChecked
namespace Go.Proofs.Ytochkonjfhhiiaa
open Go Go.RowKit

/-- A number as a value. -/
abbrev iv (z : Int) : Value := .int .i64 z
/-- The slice reads as the numbers zs. -/
structure RdI (w : World) (B : Nat) (A : Option Addr) (c : Nat) (zs : List Int) : Prop where
  le : zs.length ≤ c
  cap : c ≤ 9223372036854775807
  cells : 0 < zs.length → ∃ b off, A = some ⟨b, off, none⟩ ∧ b < B ∧ ∀ j, j < zs.length → w.cell? ⟨b, off + j, none⟩ = some (iv (zs.getD j 0))
namespace RdI
variable {w w' : World} {B B' c : Nat} {A : Option Addr} {zs : List Int}
theorem at_ (h : RdI w B A c zs) {k : Nat} (hk : k < zs.length) : ∃ b off, A = some ⟨b, off, none⟩ ∧ b < B ∧ w.cell? ⟨b, off + k, none⟩ = some (iv (zs.getD k 0)) := by
  obtain ⟨b, off, e, hb, hc⟩ := h.cells (by omega)
  exact ⟨b, off, e, hb, hc k hk⟩
theorem keep (h : RdI w B A c zs) (hk : ∀ p : Addr, p.block < B → w'.cell? p = w.cell? p) : RdI w' B A c zs :=
  ⟨h.le, h.cap, fun hn => by
    obtain ⟨b, off, e, hb, hc⟩ := h.cells hn
    exact ⟨b, off, e, hb, fun j hj => (hk _ hb).trans (hc j hj)⟩⟩
theorem more (h : RdI w B A c zs) (hB : B ≤ B') : RdI w B' A c zs :=
  ⟨h.le, h.cap, fun hn => by
    obtain ⟨b, off, e, hb, hc⟩ := h.cells hn
    exact ⟨b, off, e, by omega, hc⟩⟩
theorem below (h : RdI w B A c zs) (hb : Below B w w') : RdI w' B A c zs := h.keep fun _ hp => hb.cell hp
theorem belowTop (h : RdI w w.heap.size A c zs) (hb : Below w.heap.size w w') : RdI w' w'.heap.size A c zs := (h.below hb).more hb.size
theorem of_own {base e : Nat} {v : Value} (h : w.ownsRow base e 1 v zs.length (zs.map iv)) : ∃ A c, v = .slice A zs.length c ∧ RdI w w.heap.size A c zs := by
  obtain ⟨_, h2⟩ := h
  rcases h2 with ⟨rfl, hn⟩ | ⟨g, cap, cur, rfl, _, hh, hle, hm, hcs, ht⟩
  · exact ⟨none, 0, by rw [hn], by rw [List.eq_nil_of_length_eq_zero hn]; exact ⟨Nat.le_refl _, by omega, fun h => absurd h (by simp)⟩⟩
  · refine ⟨_, _, rfl, hle, by simpa [maxLen] using hm, fun _ => ⟨g, 0, rfl, (Array.getElem?_eq_some_iff.1 hh).1, fun j hj => ?_⟩⟩
    rw [cell_of_row w g (0 + j) cur e (0, 0) hh]
    have hx : (cur.toList.take (zs.length * 1))[j]? = (zs.map iv)[j]? := by rw [ht]
    rw [List.getElem?_take, if_pos (by omega)] at hx
    rw [Nat.zero_add, ← Array.getElem?_toList, hx]
    simp [List.getD, List.getElem?_eq_getElem hj]
end RdI
theorem ownI_built (w : World) (e : TypeId) (zs : List Int) (hl : zs.length ≤ 1000000000) : (w.alloc (.cells (zs.map iv).toArray e)).ownsRow w.heap.size e 1 (.slice (some ⟨w.heap.size, 0, none⟩) zs.length zs.length) zs.length (zs.map iv) :=
  ⟨by simp, .inr ⟨w.heap.size, zs.length, _, rfl, Nat.le_refl _, heap_alloc_new w _, Nat.le_refl _, by unfold maxLen; omega, by simp, by simp; rw [List.take_of_length_le (by simp)]⟩⟩
theorem Try.info3 : (Try.prog.info? 3).map (fun i => (i.zero, i.size, i.bytes)) = some (some (.int .i64 0), 1, 8) := by kernel_rfl

/-- append of one number to a slice of the call's own. -/
theorem wpl_appendI {P : Program} {ops : Array Oper} {rest : List Oper} {o : Oper} {a : Act} {Q : Exit → Act → World → Prop} {w : World} {t e : TypeId} (ht : P.underlying t = some (.slice e))
    (hinf : (P.info? e).map (fun i => (i.zero, i.size, i.bytes)) = some (some (.int .i64 0), 1, 8)) (hgd : o.guard = none) (s x : Operand)
    (ho : o.op = .call { callee := .builtin .append, args := #[s, x], argTypes := #[t, t] })
    (base : Nat) (v : Value) (zs : List Int) (hs : a.eval s = v) (hown : w.ownsRow base e 1 v zs.length (zs.map iv)) (y : Int)
    (hx : a.eval x = .slice (some ⟨w.heap.size, 0, none⟩) 1 1) (hl : zs.length ≤ 100000000) (hbase : base ≤ w.heap.size)
    (h : ∀ v' w', w'.ownsRow base e 1 v' (zs ++ [y]).length ((zs ++ [y]).map iv) → Below base w w' → wpList P ops Q rest (a.put o.dst v') w') :
    wpList P ops Q (o :: rest) a (w.alloc (.cells #[iv y] e)) := by
  obtain ⟨i0, hi, hz0, hz1, hz2⟩ := info_parts hinf
  refine wpList_append_own _ hgd s x t ho base e i0 (.int .i64 0) 1 8 ht hi hz0 hz1 hz2 rfl (by decide) v zs.length (zs.map iv) hs (hown.alloc _) ⟨w.heap.size, 0, none⟩ 1 1 [iv y] hx rfl (cell_one_new _ _ _)
    (fun z hz => by simp at hz; subst hz; rfl) (by unfold maxLen; omega) (by omega) (by simp; omega) fun v' w' h1 h2 _ => h v' w' (by simpa using h1) ?_
  exact ((Below.refl base w).alloc hbase _).grown h2 (by simp; omega) fun k hk => (hown.lt k hk).1

/-- append of a slice of numbers to a slice of the call's own: the run. -/
theorem run_appendIN {P : Program} {w : World} {t ty e : TypeId} (ht : P.underlying t = some (.slice e))
    (hinf : (P.info? e).map (fun i => (i.zero, i.size, i.bytes)) = some (some (.int .i64 0), 1, 8))
    (base : Nat) (v : Value) (zs : List Int) (hown : w.ownsRow base e 1 v zs.length (zs.map iv)) (B c : Nat) (A : Option Addr) (ys : List Int) (hr : RdI w B A c ys)
    (hl : zs.length + ys.length ≤ 100000000) (hbase : base ≤ w.heap.size) :
    ∃ v' w', (Builtin.append_ #[t, t] ty #[v, .slice A ys.length c]).run P w = .ok v' w' ∧ w'.ownsRow base e 1 v' (zs ++ ys).length ((zs ++ ys).map iv) ∧ Below base w w' := by
  obtain ⟨i0, hi, hz0, hz1, hz2⟩ := info_parts hinf
  rcases A with _ | ad
  · have hn : ys = [] := by
      rcases Nat.eq_zero_or_pos ys.length with h0 | h0
      · exact List.eq_nil_of_length_eq_zero h0
      · obtain ⟨b, off, e', _⟩ := hr.cells h0
        cases e'
    subst hn
    exact ⟨v, w, run_append_nil (P := P) (w := w) (ty := ty) ht hi hown c, by simpa using hown, Below.refl _ _⟩
  · have hnews : ∀ j u, (ys.map iv)[j]? = some u → w.cell? (ad.add j) = some u := by
      intro j u hu
      rw [List.getElem?_map] at hu
      rcases Nat.lt_or_ge j ys.length with hj | hj
      · obtain ⟨b, off, e', _, hc⟩ := hr.cells (by omega)
        obtain rfl := Option.some.inj e'
        rw [Go.WideShapes.add_plain, hc j hj]
        rw [List.getElem?_eq_getElem hj] at hu
        simpa [List.getD, List.getElem?_eq_getElem hj] using hu
      · rw [List.getElem?_eq_none hj] at hu
        cases hu
    obtain ⟨v', w', h0, h1, h2, _, _⟩ := run_append_own_at (P := P) w base t ty e i0 (.int .i64 0) 1 8 ht hi hz0 hz1 hz2 rfl (by decide) v zs.length (zs.map iv) hown ad ys.length c (ys.map iv) (by simp) hnews
      (fun z hz => by obtain ⟨_, _, rfl⟩ := List.mem_map.1 hz; rfl) (by unfold maxLen; omega) (by omega) hbase
    exact ⟨v', w', h0, by simpa using h1, (Below.refl base w).grown h2 hbase fun k hk => (hown.lt k hk).1⟩
/-- .. at the list of a region's operations. -/
theorem wpl_appendIN {P : Program} {ops : Array Oper} {rest : List Oper} {o : Oper} {a : Act} {Q : Exit → Act → World → Prop} {w : World} {t e : TypeId} (ht : P.underlying t = some (.slice e))
    (hinf : (P.info? e).map (fun i => (i.zero, i.size, i.bytes)) = some (some (.int .i64 0), 1, 8)) (hgd : o.guard = none) (s x : Operand)
    (ho : o.op = .call { callee := .builtin .append, args := #[s, x], argTypes := #[t, t] })
    (base : Nat) (v : Value) (zs : List Int) (hs : a.eval s = v) (hown : w.ownsRow base e 1 v zs.length (zs.map iv)) (B c : Nat) (A : Option Addr) (ys : List Int) (hr : RdI w B A c ys)
    (hx : a.eval x = .slice A ys.length c) (hl : zs.length + ys.length ≤ 100000000) (hbase : base ≤ w.heap.size)
    (h : ∀ v' w', w'.ownsRow base e 1 v' (zs ++ ys).length ((zs ++ ys).map iv) → Below base w w' → wpList P ops Q rest (a.put o.dst v') w') :
    wpList P ops Q (o :: rest) a w :=
  wpList_plain hgd fun _ hK => by
    obtain ⟨v', w', h0, h1, h2⟩ := run_appendIN (P := P) (ty := o.type) ht hinf base v zs hown B c A ys hr hl hbase
    unfold Oper.wp execOp
    simp only [ho, resolve, invoke, builtin, Sem.run_bind, Sem.run_pure, Result.andThen_ok, List.map_toArray, List.map_cons, List.map_nil, hs, hx, h0]
    exact hK _ _ (h v' w' h1 h2)

end Go.Proofs.Ytochkonjfhhiiaa

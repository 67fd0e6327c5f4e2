/-
  Helper text: the line and the list of its packets, two slices that the call builds side by side; no statement is proved here.
-/
import Derived.Test.YtbeghnpdmcmdmaaDoorList
import Derived.Test.YtbeghnpdmcmdmaaDoorLineC
namespace Go.Proofs.YtbeghnpdmcmdmaaDoor
open Go Go.RowKit

theorem own_ne {w : World} {base e e' : Nat} {v v' : Value} {n n' : Nat} {vs vs' : List Value} (h : w.ownsRow base e 1 v n vs) (h' : w.ownsRow base e' 1 v' n' vs') (hne : e ≠ e') : v.ownBlock = none ∨ v.ownBlock ≠ v'.ownBlock := by
  rcases h.2 with ⟨rfl, _⟩ | ⟨g, cap, cur, rfl, _, hg, _⟩
  · exact .inl rfl
  · rcases h'.2 with ⟨rfl, _⟩ | ⟨g', cap', cur', rfl, _, hg', _⟩
    · exact .inr (by simp [Value.ownBlock])
    · refine .inr fun hh => hne ?_
      have hh : g = g' := by simpa [Value.ownBlock] using hh
      subst hh
      rw [hg] at hg'
      have h1 := Option.some.inj hg'
      injection h1

/-- The slice v, of the call's own, holds slices that read as ps in the world w0. -/
def Pks (w0 w : World) (v : Value) (ps : List (List UInt8)) : Prop :=
  ∃ vs, w.ownsRow w0.heap.size 22 1 v ps.length vs ∧ ∀ j, j < ps.length → ∃ A c, vs[j]? = some (.slice A (ps.getD j []).length c) ∧ Rd w0 w0.heap.size A c (ps.getD j [])
/-- The line and its packets. -/
structure Ln (w0 w : World) (vl va : Value) (xs : List UInt8) (ps : List (List UInt8)) : Prop where
  below : Below w0.heap.size w0 w
  line : w.ownsRow w0.heap.size 5 1 vl xs.length (xs.map bv)
  packs : Pks w0 w va ps
theorem Ln.nil (w0 : World) : Ln w0 w0 (.slice none 0 0) (.slice none 0 0) [] [] := ⟨Below.refl _ _, World.ownsRow_nil _ _ _ _, ⟨[], World.ownsRow_nil _ _ _ _, fun j hj => absurd hj (by simp)⟩⟩
theorem Pks.kept {w0 w w' : World} {v : Value} {ps : List (List UInt8)} {row : Option Nat} (h : Pks w0 w v ps) (hg : w.grownBy w' row) (hne : v.ownBlock = none ∨ v.ownBlock ≠ row) : Pks w0 w' v ps := by
  obtain ⟨vs, ho, hv⟩ := h
  exact ⟨vs, ho.kept hg hne, hv⟩
theorem none_or (v : Value) : v.ownBlock = none ∨ v.ownBlock ≠ none := by cases v.ownBlock <;> simp
theorem Ln.to {w0 w w' : World} {vl va : Value} {xs : List UInt8} {ps : List (List UInt8)} (h : Ln w0 w vl va xs ps) (hb : Below w.heap.size w w') : Ln w0 w' vl va xs ps :=
  ⟨h.below.trans (hb.mono h.below.size), own_below h.line hb, h.packs.kept (grown_of_below hb) (none_or _)⟩
theorem Pks.rds {w0 w : World} {v : Value} {ps : List (List UInt8)} (h : Pks w0 w v ps) (hb : Below w0.heap.size w0 w) : ∃ A c, v = .slice A ps.length c ∧ Rds w w.heap.size A c ps := by
  obtain ⟨vs, ⟨_, h2⟩, hv⟩ := h
  rcases h2 with ⟨rfl, hn⟩ | ⟨g, cap, cur, rfl, _, hh, hle, hm, hcs, ht⟩
  · exact ⟨none, 0, by rw [hn], by rw [List.eq_nil_of_length_eq_zero hn]; exact ⟨Nat.le_refl _, by omega, fun h => absurd h (by simp)⟩⟩
  · refine ⟨_, _, rfl, hle, by simpa [maxLen] using hm, fun _ => ⟨g, 0, rfl, (Array.getElem?_eq_some_iff.1 hh).1, fun j hj => ?_⟩⟩
    obtain ⟨A', c', e1, e2⟩ := hv j hj
    refine ⟨A', c', ?_, (e2.below hb).more hb.size⟩
    rw [cell_of_row w g (0 + j) cur _ (0, 0) hh]
    rw [← ht, List.getElem?_take, if_pos (by omega)] at e1
    rw [Nat.zero_add, ← Array.getElem?_toList, e1]

theorem wpl_lnZeros {P : Program} {ops : Array Oper} {rest : List Oper} {o : Oper} {a : Act} {Q : Exit → Act → World → Prop} {w0 w : World} {t tn : TypeId} (ht : P.underlying t = some (.slice 5)) (htn : P.underlying tn = some (.int .i64))
    (hinf : (P.info? 5).map (fun i => (i.zero, i.size, i.bytes)) = some (some (.int .u8 0), 1, 1)) (hgd : o.guard = none) (s x : Operand)
    (ho : o.op = .call { callee := .builtin .append, args := #[s, x], argTypes := #[t, tn] }) (v va : Value) (xs : List UInt8) (ps : List (List UInt8)) (hs : a.eval s = v) (hl : Ln w0 w v va xs ps)
    (k : Nat) (hx : a.eval x = .int .i64 (k : Int)) (hk : xs.length + k ≤ 1000000000)
    (h : ∀ v' w', Ln w0 w' v' va (xs ++ List.replicate k 0) ps → wpList P ops Q rest (a.put o.dst v') w') : wpList P ops Q (o :: rest) a w := by
  obtain ⟨i0, hi, hz0, hz1, hz2⟩ := info_parts hinf
  obtain ⟨v', w', hr, h1, h2⟩ := run_append_own_zeros (P := P) w w0.heap.size t tn o.type _ i0 ht htn hi hz0 hz1 hz2 v xs hl.line k hk hl.below.size
  refine Lib.wpList_append_run w hgd s x t tn ho _ _ hs hx v' w' hr (h v' w' ⟨?_, h1, ?_⟩)
  · exact hl.below.trans ((Below.refl w0.heap.size w).grown h2 hl.below.size fun k hk => (hl.line.lt k hk).1)
  · obtain ⟨vs, ho, hv⟩ := hl.packs
    exact ⟨vs, ho.kept h2 (own_ne ho hl.line (by decide)), hv⟩
theorem wpl_lnAppend {P : Program} {ops : Array Oper} {rest : List Oper} {o : Oper} {a : Act} {Q : Exit → Act → World → Prop} {w0 w : World} {t : TypeId} (ht : P.underlying t = some (.slice 5))
    (hinf : (P.info? 5).map (fun i => (i.zero, i.size, i.bytes)) = some (some (.int .u8 0), 1, 1)) (hgd : o.guard = none) (s x : Operand)
    (ho : o.op = .call { callee := .builtin .append, args := #[s, x], argTypes := #[t, t] }) (v va : Value) (xs : List UInt8) (ps : List (List UInt8)) (hs : a.eval s = v) (hl : Ln w0 w v va xs ps)
    (A : Option Addr) (c : Nat) (ys : List UInt8) (hr : Rd w w.heap.size A c ys) (hx : a.eval x = .slice A ys.length c) (hk : xs.length + ys.length ≤ 1000000000)
    (h : ∀ v' w', Ln w0 w' v' va (xs ++ ys) ps → wpList P ops Q rest (a.put o.dst v') w') : wpList P ops Q (o :: rest) a w := by
  refine wpList_plain hgd fun _ hK => wp_appendN ht hinf s x ho w0.heap.size v xs hs hl.line w.heap.size c A ys hr hx hk hl.below.size fun v' w' h1 h2 h3 _ => hK _ _ (h v' w' ⟨hl.below.trans h2, h1, ?_⟩)
  obtain ⟨vs, ho, hv⟩ := hl.packs
  exact ⟨vs, ho.kept h3 (own_ne ho hl.line (by decide)), hv⟩
theorem wpl_lnPack {P : Program} {ops : Array Oper} {rest : List Oper} {o : Oper} {a : Act} {Q : Exit → Act → World → Prop} {w0 w : World} {t : TypeId} (ht : P.underlying t = some (.slice 22))
    (hinf : (P.info? 22).map (fun i => (i.zero, i.size, i.bytes)) = some (some (.slice none 0 0), 1, 24)) (hgd : o.guard = none) (s x : Operand)
    (ho : o.op = .call { callee := .builtin .append, args := #[s, x], argTypes := #[t, t] }) (vl v : Value) (xs : List UInt8) (ps : List (List UInt8)) (hs : a.eval s = v) (hl : Ln w0 w vl v xs ps)
    (A : Option Addr) (c : Nat) (ys : List UInt8) (hr : Rd w0 w0.heap.size A c ys) (hx : a.eval x = .slice (some ⟨w.heap.size, 0, none⟩) 1 1) (hk : ps.length ≤ 1000000)
    (h : ∀ v' w', Ln w0 w' vl v' xs (ps ++ [ys]) → wpList P ops Q rest (a.put o.dst v') w') : wpList P ops Q (o :: rest) a (w.alloc (.cells #[.slice A ys.length c] 22)) := by
  obtain ⟨i0, hi, hz0, hz1, hz2⟩ := info_parts hinf
  obtain ⟨hb, hline, ⟨vs, hown, hv⟩⟩ := hl
  refine wpList_append_own_at _ hgd s x t ho w0.heap.size _ i0 (.slice none 0 0) 1 24 ht hi hz0 hz1 hz2 rfl (by decide) v ps.length vs hs (hown.alloc _) ⟨w.heap.size, 0, none⟩ 1 1 [.slice A ys.length c] hx rfl (cell_one_new _ _ _)
    (fun z hz => by simp at hz; subst hz; rfl) (by unfold maxLen; omega) (by omega) (by have := hb.size; simp; omega) fun v' w' h1 h2 _ _ => h v' w' ⟨?_, ?_, ?_⟩
  · exact (hb.alloc hb.size _).grown h2 (by have := hb.size; simp; omega) fun k hk => (hown.lt k hk).1
  · exact (hline.alloc _).kept h2 (own_ne hline hown (by decide))
  · have hvl : vs.length = ps.length := by have := hown.1; omega
    refine ⟨vs ++ [.slice A ys.length c], by simpa using h1, fun j hj => ?_⟩
    rw [List.length_append, List.length_cons, List.length_nil] at hj
    rcases Nat.lt_or_ge j ps.length with hjl | hjl
    · obtain ⟨A', c', e1, e2⟩ := hv j hjl
      have hg : (ps ++ [ys]).getD j [] = ps.getD j [] := by simp [List.getD, List.getElem?_append, hjl]
      rw [hg]
      exact ⟨A', c', by rw [List.getElem?_append, if_pos (by omega)]; exact e1, e2⟩
    · have hj2 : j = ps.length := by omega
      subst hj2
      have hg : (ps ++ [ys]).getD ps.length [] = ys := by simp [List.getD]
      rw [hg]
      exact ⟨A, c, by rw [List.getElem?_append, if_neg (by omega), hvl]; simp, hr⟩

end Go.Proofs.YtbeghnpdmcmdmaaDoor

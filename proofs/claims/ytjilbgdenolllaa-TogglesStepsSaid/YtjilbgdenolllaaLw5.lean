/-
  Helper text: one packet appended in a region; no statement is proved here.
-/
import Derived.Test.YtjilbgdenolllaaLw4
import Derived.Test.YtjilbgdenolllaaLivesA
namespace Go.Proofs.Ytjilbgdenolllaa
open Go Go.RowKit

theorem take_snoc' {α : Type} (xs : List α) (d : α) {k : Nat} (h : k < xs.length) : xs.take (k + 1) = xs.take k ++ [xs.getD k d] := by
  rw [List.take_add_one, List.getElem?_eq_getElem h]
  simp [List.getD, List.getElem?_eq_getElem h]

set_option maxHeartbeats 1600000 in
set_option maxRecDepth 100000 in
theorem run_appendPk1 {P : Program} {w : World} {t ty e : TypeId} (ht : P.underlying t = some (.slice e))
    (hinf : (P.info? e).map (fun i => (i.zero, i.size, i.bytes)) = some (some (.slice none 0 0), 1, 24))
    (base : Nat) (v : Value) (ps : List (List UInt8)) (hpk : Pk w base e v ps) (A : Option Addr) (c : Nat) (ys : List UInt8) (hr : Rd w base A c ys) (g : Nat)
    (hg : w.cell? ⟨g, 0, none⟩ = some (.slice A ys.length c)) (hl : ps.length ≤ 1000000) (hbase : base ≤ w.heap.size) :
    ∃ v' w', (Builtin.append_ #[t, t] ty #[v, .slice (some ⟨g, 0, none⟩) 1 1]).run P w = .ok v' w' ∧ Pk w' base e v' (ps ++ [ys]) ∧ Below base w w' := by
  obtain ⟨i0, hi, hz0, hz1, hz2⟩ := info_parts hinf
  obtain ⟨vs, hown, hv⟩ := hpk
  have hvl : vs.length = ps.length := by have := hown.1; omega
  have hnews : ∀ j u, [Value.slice A ys.length c][j]? = some u → w.cell? ((⟨g, 0, none⟩ : Addr).add j) = some u := by
    intro j u hu
    rcases j with _ | j
    · obtain rfl : Value.slice A ys.length c = u := by simpa using hu
      rw [Go.WideShapes.add_plain]; exact hg
    · simp at hu
  obtain ⟨v', w', h0, h1, h2, _, h4⟩ := run_append_own_at (P := P) w base t ty e i0 (.slice none 0 0) 1 24 ht hi hz0 hz1 hz2 rfl (by decide) v ps.length vs hown ⟨g, 0, none⟩ 1 1 [.slice A ys.length c] rfl hnews
    (fun z hz => by simp at hz; subst hz; rfl) (by unfold maxLen; omega) (by omega) hbase
  have hbl : Below base w w' := (Below.refl base w).grown h2 hbase fun k hk => (hown.lt k hk).1
  have hlt' : ∀ k, v'.ownBlock = some k → base ≤ k := fun k hk => (h1.lt k hk).1
  refine ⟨v', w', h0, ⟨vs ++ [.slice A ys.length c], by rw [List.length_append]; exact h1, fun j hj => ?_⟩, hbl⟩
  rw [List.length_append, List.length_cons, List.length_nil] at hj
  rcases Nat.lt_or_ge j ps.length with hjl | hjl
  · obtain ⟨A', c', e1, e2, e3⟩ := hv j hjl
    rw [getD_append_lt hjl]
    refine ⟨A', c', by rw [List.getElem?_append, if_pos (by omega)]; exact e1, e2.grownNe h2 e3, fun hp ad' had => ?_⟩
    rcases h4 with h4 | h4
    · rw [h4]; exact e3 hp ad' had
    · rw [h4]
      obtain ⟨b, off, e5, hb5, _⟩ := e2.cells hp
      have e6 := e5.symm.trans had
      obtain rfl := Option.some.inj e6
      intro e7
      have := Option.some.inj e7
      simp only at this
      omega
  · obtain rfl : j = ps.length := by omega
    have hge : (ps ++ [ys]).getD ps.length [] = ys := by simp [List.getD]
    rw [hge]
    refine ⟨A, c, by rw [List.getElem?_append, if_neg (by omega), hvl]; simp, (hr.below hbl).more (Nat.le_trans hbase h2.size), fun hp ad' had => ?_⟩
    obtain ⟨b, off, e5, hb5, _⟩ := hr.cells hp
    have e6 := e5.symm.trans had
    obtain rfl := Option.some.inj e6
    intro e7
    have h8 : base ≤ b := hlt' b e7.symm
    omega

/-- .. at the operation. -/
theorem wp_appendPk1 {P : Program} {o : Oper} {a : Act} {K : Act → World → Prop} {Q : Exit → Act → World → Prop} {w : World} {t e : TypeId} (ht : P.underlying t = some (.slice e))
    (hinf : (P.info? e).map (fun i => (i.zero, i.size, i.bytes)) = some (some (.slice none 0 0), 1, 24)) (s x : Operand)
    (ho : o.op = .call { callee := .builtin .append, args := #[s, x], argTypes := #[t, t] })
    (base : Nat) (v : Value) (ps : List (List UInt8)) (hs : a.eval s = v) (hpk : Pk w base e v ps) (A : Option Addr) (c : Nat) (ys : List UInt8) (hr : Rd w base A c ys) (g : Nat)
    (hg : w.cell? ⟨g, 0, none⟩ = some (.slice A ys.length c)) (hx : a.eval x = .slice (some ⟨g, 0, none⟩) 1 1) (hl : ps.length ≤ 1000000) (hbase : base ≤ w.heap.size)
    (h : ∀ v' w', Pk w' base e v' (ps ++ [ys]) → Below base w w' → K (a.put o.dst v') w') :
    o.wp P a w K Q := by
  obtain ⟨v', w', h0, h1, h2⟩ := run_appendPk1 (P := P) (ty := o.type) ht hinf base v ps hpk A c ys hr g hg hl hbase
  unfold Oper.wp execOp
  simp only [ho, resolve, invoke, builtin, Sem.run_bind, Sem.run_pure, Result.andThen_ok, List.map_toArray, List.map_cons, List.map_nil, hs, hx, h0]
  exact h v' w' h1 h2

end Go.Proofs.Ytjilbgdenolllaa

/-
  Helper text: for the statements on runs; no statement is proved here.
-/
import Derived.Test.YtjilbgdenolllaaLives
import Derived.Test.YtjilbgdenolllaaMath
namespace Go.Proofs.Ytjilbgdenolllaa
open Go Go.RowKit

theorem SmallP.all {ps : List (List UInt8)} {m : Nat} (h : SmallP ps m) : ∀ j, (ps.getD j []).length ≤ 64 := fun j => by
  rcases Nat.lt_or_ge j ps.length with hj | hj
  · exact h.2 j hj
  · have e : ps.getD j [] = [] := by simp [List.getD, List.getElem?_eq_none hj]
    rw [e]; simp
theorem SmallP.sml {ps : List (List UInt8)} {m : Nat} (h : SmallP ps m) (hm : m ≤ 100) : Sml ps := ⟨by have := h.1; omega, fun j => by have := h.all j; omega⟩

theorem Rds.headsB {w : World} {B : Nat} {A : Option Addr} {c : Nat} {ps : List (List UInt8)} (h : Rds w B A c ps) :
    ∃ vs : List Value, vs.length = ps.length ∧ (∀ v ∈ vs, v.oneCell' = true) ∧ (∀ j, j < ps.length → ∃ A c, vs[j]? = some (.slice A (ps.getD j []).length c) ∧ Rd w B A c (ps.getD j [])) ∧
      (0 < vs.length → ∃ b off, A = some ⟨b, off, none⟩ ∧ b < B ∧ ∀ j v, vs[j]? = some v → w.cell? ⟨b, off + j, none⟩ = some v) := by
  rcases Nat.eq_zero_or_pos ps.length with h0 | h0
  · exact ⟨[], by rw [h0]; rfl, by simp, fun j hj => absurd hj (by omega), by simp⟩
  · obtain ⟨b, off, rfl, hb, hc⟩ := h.cells h0
    have hget : ∀ j : Nat, j < ps.length → ∃ v A' c', v = Value.slice A' (ps.getD j []).length c' ∧ w.cell? ⟨b, off + j, none⟩ = some v ∧ Rd w B A' c' (ps.getD j []) := fun j hj => by
      obtain ⟨A', c', h1, h2⟩ := hc j hj
      exact ⟨_, A', c', rfl, h1, h2⟩
    have hat : ∀ j : Nat, j < ps.length → ((List.range ps.length).map fun j => (w.cell? ⟨b, off + j, none⟩).getD (.slice none 0 0))[j]? = w.cell? ⟨b, off + j, none⟩ := fun j hj => by
      obtain ⟨v, _, _, rfl, h1, _⟩ := hget j hj
      simp [List.getElem?_map, List.getElem?_range hj, h1]
    refine ⟨(List.range ps.length).map fun j => (w.cell? ⟨b, off + j, none⟩).getD (.slice none 0 0), by simp, fun v hv => ?_, fun j hj => ?_, fun _ => ⟨b, off, rfl, hb, fun j v hj => ?_⟩⟩
    · obtain ⟨j, hj, rfl⟩ := List.mem_map.1 hv
      obtain ⟨v, _, _, rfl, h1, _⟩ := hget j (by simpa using hj)
      rw [h1]
      rfl
    · obtain ⟨v, A', c', rfl, h1, h2⟩ := hget j hj
      exact ⟨A', c', by rw [hat j hj, h1], h2⟩
    · rcases Nat.lt_or_ge j ps.length with hl | hl
      · rw [← hat j hl]; exact hj
      · rw [List.getElem?_eq_none (by simpa using hl)] at hj
        cases hj

/-- append of a list of packets that lie below, to a list of the call's own: the run. -/
theorem run_appendPks {P : Program} {w : World} {t ty e : TypeId} (ht : P.underlying t = some (.slice e))
    (hinf : (P.info? e).map (fun i => (i.zero, i.size, i.bytes)) = some (some (.slice none 0 0), 1, 24))
    (base : Nat) (v : Value) (ps : List (List UInt8)) (hpk : Pk w base e v ps) (A : Option Addr) (c : Nat) (qs : List (List UInt8)) (hr : Rds w base A c qs)
    (hl : ps.length + qs.length ≤ 1000000) (hbase : base ≤ w.heap.size) :
    ∃ v' w', (Builtin.append_ #[t, t] ty #[v, .slice A qs.length c]).run P w = .ok v' w' ∧ Pk w' base e v' (ps ++ qs) ∧ Below base w w' := by
  obtain ⟨i0, hi, hz0, hz1, hz2⟩ := info_parts hinf
  obtain ⟨vs, hown, hv⟩ := hpk
  obtain ⟨us, hul, hu1, hus, hsrc⟩ := hr.headsB
  have hvl : vs.length = ps.length := by have := hown.1; omega
  rcases A with _ | ad
  · have hn : qs = [] := by
      rcases Nat.eq_zero_or_pos qs.length with h0 | h0
      · exact List.eq_nil_of_length_eq_zero h0
      · obtain ⟨b, off, e', _⟩ := hr.cells h0
        cases e'
    subst hn
    exact ⟨v, w, run_append_nil (P := P) (w := w) (ty := ty) ht hi hown c, by rw [List.append_nil]; exact ⟨vs, hown, hv⟩, Below.refl _ _⟩
  · have hnews : ∀ j u, us[j]? = some u → w.cell? (ad.add j) = some u := by
      intro j u hu
      have h0 : 0 < us.length := by
        rcases Nat.eq_zero_or_pos us.length with h0 | h0
        · rw [List.eq_nil_of_length_eq_zero h0] at hu
          simp at hu
        · exact h0
      obtain ⟨b, off, e', _, hcell⟩ := hsrc h0
      obtain rfl := Option.some.inj e'
      rw [Go.WideShapes.add_plain]
      exact hcell j u hu
    obtain ⟨v', w', h0, h1, h2, _, h4⟩ := run_append_own_at (P := P) w base t ty e i0 (.slice none 0 0) 1 24 ht hi hz0 hz1 hz2 rfl (by decide) v ps.length vs hown ad qs.length c us (by omega) hnews hu1 (by unfold maxLen; omega) (by omega) hbase
    have hbl : Below base w w' := (Below.refl base w).grown h2 hbase fun k hk => (hown.lt k hk).1
    have hlt' : ∀ k, v'.ownBlock = some k → base ≤ k := fun k hk => (h1.lt k hk).1
    refine ⟨v', w', h0, ⟨vs ++ us, by rw [List.length_append]; exact h1, fun j hj => ?_⟩, hbl⟩
    rw [List.length_append] at hj
    rcases Nat.lt_or_ge j ps.length with hjl | hjl
    · obtain ⟨A', c', e1, e2, e3⟩ := hv j hjl
      rw [getD_append_lt hjl]
      refine ⟨A', c', by rw [List.getElem?_append, if_pos (by omega)]; exact e1, e2.grownNe h2 e3, fun hp ad' had => ?_⟩
      rcases h4 with h4 | h4
      · rw [h4]; exact e3 hp ad' had
      · rw [h4]
        obtain ⟨b, off, e5, hb5, _⟩ := e2.cells hp
        have e6 := e5.symm.trans had
        obtain rfl := Option.some.inj e6
        intro e7
        have := Option.some.inj e7
        simp only at this
        omega
    · obtain ⟨A', c', e1, e2⟩ := hus (j - ps.length) (by omega)
      rw [getD_append_ge hjl]
      refine ⟨A', c', by rw [List.getElem?_append, if_neg (by omega), hvl]; exact e1, (e2.below hbl).more (Nat.le_trans hbase h2.size), fun hp ad' had => ?_⟩
      obtain ⟨b, off, e5, hb5, _⟩ := e2.cells hp
      have e6 := e5.symm.trans had
      obtain rfl := Option.some.inj e6
      intro e7
      have h8 : base ≤ b := hlt' b e7.symm
      omega

/-- .. at the operation. -/
theorem wp_appendPks {P : Program} {o : Oper} {a : Act} {K : Act → World → Prop} {Q : Exit → Act → World → Prop} {w : World} {t e : TypeId} (ht : P.underlying t = some (.slice e))
    (hinf : (P.info? e).map (fun i => (i.zero, i.size, i.bytes)) = some (some (.slice none 0 0), 1, 24)) (s x : Operand)
    (ho : o.op = .call { callee := .builtin .append, args := #[s, x], argTypes := #[t, t] })
    (base : Nat) (v : Value) (ps : List (List UInt8)) (hs : a.eval s = v) (hpk : Pk w base e v ps) (A : Option Addr) (c : Nat) (qs : List (List UInt8)) (hr : Rds w base A c qs)
    (hx : a.eval x = .slice A qs.length c) (hl : ps.length + qs.length ≤ 1000000) (hbase : base ≤ w.heap.size)
    (h : ∀ A' c' w', Pk w' base e (.slice A' (ps ++ qs).length c') (ps ++ qs) → Below base w w' → K (a.put o.dst (.slice A' (ps ++ qs).length c')) w') :
    o.wp P a w K Q := by
  obtain ⟨v', w', h0, h1, h2⟩ := run_appendPks (P := P) (ty := o.type) ht hinf base v ps hpk A c qs hr hl hbase
  obtain ⟨A', c', rfl⟩ := h1.shape
  unfold Oper.wp execOp
  simp only [ho, resolve, invoke, builtin, Sem.run_bind, Sem.run_pure, Result.andThen_ok, List.map_toArray, List.map_cons, List.map_nil, hs, hx, h0]
  exact h A' c' w' h1 h2

end Go.Proofs.Ytjilbgdenolllaa

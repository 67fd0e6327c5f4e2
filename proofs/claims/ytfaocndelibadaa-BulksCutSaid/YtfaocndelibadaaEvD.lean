/-
  Helper text: loads and stores of our own machine; no statement is proved here.
-/
import Derived.Test.YtfaocndelibadaaEvC
namespace Go.Proofs.Ytfaocndelibadaa.Ev
noncomputable section
open Go Go.RowKit

theorem splice_get {α : Type} : ∀ (l : List α) (n : Nat) (vs : List α) (i : Nat), n + vs.length ≤ l.length →
    (splice l n vs)[i]? = if n ≤ i ∧ i < n + vs.length then vs[i - n]? else l[i]?
  | l, 0, vs, i, h => by
    simp only [splice, List.getElem?_append]
    by_cases hi : i < vs.length
    · simp [hi]
    · simp only [hi, if_false, Nat.zero_le, Nat.zero_add, and_false]
      rw [List.getElem?_drop]; congr 1; omega
  | x :: l, n + 1, vs, i, h => by
    cases i with
    | zero => simp [splice]
    | succ i =>
      simp only [splice, List.getElem?_cons_succ]
      rw [splice_get l n vs i (by simp at h; omega)]
      by_cases hi : n ≤ i ∧ i < n + vs.length
      · rw [if_pos hi, if_pos (by omega)]; congr 1; omega
      · rw [if_neg hi, if_neg (by omega)]
  | [], n + 1, vs, i, h => by simp at h

theorem splice_length {α : Type} : ∀ (l : List α) (n : Nat) (vs : List α), n + vs.length ≤ l.length → (splice l n vs).length = l.length
  | l, 0, vs, h => by simp [splice]; omega
  | x :: l, n + 1, vs, h => by simp [splice]; exact splice_length l n vs (by simp at h; omega)
  | [], n + 1, vs, h => by simp at h

theorem splice_cons {α : Type} (l : List α) (n : Nat) (v : α) (vs : List α) (h : n + (vs.length + 1) ≤ l.length) : splice l n (v :: vs) = splice (l.set n v) (n + 1) vs := by
  apply List.ext_getElem?
  intro i
  rw [splice_get _ _ _ _ (by simpa using h), splice_get _ _ _ _ (by simp; omega), List.getElem?_set]
  simp only [List.length_cons]
  by_cases h1 : n ≤ i ∧ i < n + (vs.length + 1)
  · rw [if_pos h1]
    by_cases h2 : i = n
    · subst h2; rw [if_neg (by omega), if_pos rfl, if_pos (by omega)]; simp
    · rw [if_pos (by omega)]
      obtain ⟨k, rfl⟩ : ∃ k, i = n + (k + 1) := ⟨i - n - 1, by omega⟩
      rw [show n + (k + 1) - n = k + 1 by omega, show n + (k + 1) - (n + 1) = k by omega]; rfl
  · rw [if_neg h1, if_neg (by omega), if_neg (by omega)]

theorem VL.splice {σ : Sg} {l : List AV} {vs : List Value} {m : List AV} {ys : List Value} (h : VL σ l vs) (k : VL σ m ys) (n : Nat) (hb : n + m.length ≤ l.length) :
    VL σ (Ev.splice l n m) (Ev.splice vs n ys) := by
  have hl := h.length
  have hm := k.length
  refine (VL_iff _ _).2 ⟨by rw [splice_length _ _ _ hb, splice_length _ _ _ (by omega), hl], fun i a v ha hv => ?_⟩
  rw [splice_get _ _ _ _ hb] at ha
  rw [splice_get _ _ _ _ (by omega), ← hm] at hv
  split at ha
  · rename_i hi; rw [if_pos hi] at hv; exact ((VL_iff _ _).1 k).2 _ _ _ ha hv
  · rename_i hi; rw [if_neg hi] at hv; exact ((VL_iff _ _).1 h).2 _ _ _ ha hv

theorem setCell_row {w : World} {b : Nat} {cells : Array Value} {ty : TypeId} {fz : Nat × Nat} (h : w.heap[b]? = some (.cells cells ty fz)) (j : Nat) (v : Value) :
    (w.setCell ⟨b, j, none⟩ v).heap[b]? = some (.cells (cells.setIfInBounds j v) ty fz) := by
  simp [World.setCell, Array.getElem?_modify, h]

theorem run_storeRow (P : Program) (ty : TypeId) (fz : Nat × Nat) (b off : Nat) : ∀ (ys : List Value) (i : Nat) (w : World) (cells : Array Value), w.heap[b]? = some (.cells cells ty fz) → free fz cells.size →
    (∀ y ∈ ys, y.oneCell' = true) → off + i + ys.length ≤ cells.size →
    ∃ w' cells', (storeCells ⟨b, off, none⟩ ys i).run P w = .ok () w' ∧ w'.heap[b]? = some (.cells cells' ty fz) ∧ cells'.toList = splice cells.toList (off + i) ys ∧
      w'.os = w.os ∧ w'.tape = w.tape ∧ w'.output = w.output ∧ w'.heap.size = w.heap.size ∧ ∀ k, k ≠ b → w'.heap[k]? = w.heap[k]?
  | [], i, w, cells, h, _, _, hb => by
    refine ⟨w, cells, rfl, h, ?_, rfl, rfl, rfl, rfl, fun _ _ => rfl⟩
    apply List.ext_getElem?
    intro j
    rw [splice_get _ _ _ _ (by simpa using hb), if_neg (by simp)]
  | y :: ys, i, w, cells, h, hf, hy, hb => by
    simp only [List.length_cons] at hb
    have hc := cell_row h (off + i)
    have hlt : off + i < cells.toList.length := by simp; omega
    rw [List.getElem?_eq_getElem hlt] at hc
    have hfz : w.frozen? ⟨b, off + i, none⟩ = false := by
      have hfi := hf (off + i) (by omega)
      obtain ⟨f1, f2⟩ := fz
      simp only [World.frozen?, h]
      simp only at hfi
      simpa using hfi
    have hr : (store ((⟨b, off, none⟩ : Addr).add i) y).run P w = .ok () (w.setCell ⟨b, off + i, none⟩ y) := by
      rw [addr_add, run_store P w _ y .plain (hy y (by simp))]
      simp [hc, hfz]
    obtain ⟨w', cells', r1, r2, r3, r4, r5, r6, r7, r8⟩ := run_storeRow P ty fz b off ys (i + 1) (w.setCell ⟨b, off + i, none⟩ y) _ (setCell_row h (off + i) y) (by simpa using hf) (fun z hz => hy z (by simp [hz])) (by simp; omega)
    refine ⟨w', cells', ?_, r2, ?_, r4, r5, r6, by rw [r7]; simp [World.setCell], fun k hk => (r8 k hk).trans (Below.heap_setCell _ _ _ _ hk)⟩
    · simp only [storeCells, Sem.run_bind, hr, Result.andThen_ok]; exact r1
    · rw [r3, splice_cons _ _ _ _ (by simp; omega)]
      simp [Nat.add_assoc]

theorem scal_one {σ : Sg} {a : AV} {v : Value} (h : scal a = true) (k : V σ a v) : v.oneCell' = true := by
  cases a <;> simp [scal] at h <;> simp only [V] at k
  all_goals first
    | (subst k; rfl)
    | (obtain ⟨_, _, _, _, rfl⟩ := k; rfl)
    | (obtain ⟨_, _, _, _, _, rfl, _⟩ := k; rfl)
    | (obtain ⟨_, _, _, _, rfl⟩ := k; rfl)
    | (obtain ⟨_, _, rfl⟩ := k; rfl)

theorem VL.one {σ : Sg} : ∀ {l : List AV} {vs : List Value}, l.all scal = true → VL σ l vs → ∀ y ∈ vs, y.oneCell' = true
  | [], vs, _, h, y, hy => by obtain rfl := h; simp at hy
  | a :: l, vs, ha, ⟨z, zs, p, q, r⟩, y, hy => by
    subst p
    simp at ha
    rcases List.mem_cons.1 hy with rfl | hy
    · exact scal_one ha.1 q
    · exact VL.one (by simpa using ha.2) r y hy

theorem storeC_ok {σ : Sg} {h h' : Hp} {w : World} (x : HR σ h w) {P : Program} {id off : Nat} {vs : List AV} {ys : List Value} (hs : storeC h id off vs = some h') (hv : VL σ vs ys) :
    ∃ b o m w', σ id = some (b, o, m) ∧ (storeCells ⟨b, o + off, none⟩ ys).run P w = .ok () w' ∧ HR σ h' w' ∧ Stp σ h w σ h' w' := by
  unfold storeC at hs
  cases hg : h.get id with
  | none => simp [hg] at hs
  | some blk =>
    cases blk with
    | amap => simp [hg] at hs
    | row cs ty opn md =>
      simp only [hg] at hs
      cases hb : (Nat.ble md 1 && Nat.ble (off + vs.length) cs.length && vs.all scal) with
      | false => simp only [hb, cond_false] at hs; simp at hs
      | true =>
        simp only [hb, cond_true] at hs
        obtain rfl := Option.some.inj hs
        simp only [Bool.and_eq_true] at hb
        obtain ⟨⟨hb1, hb2⟩, hb3⟩ := hb
        have hb1' := Nat.le_of_ble_eq_true hb1
        have hb2' := Nat.le_of_ble_eq_true hb2
        have hlen := hv.length
        obtain ⟨b, o, m, cells, fz, tv, h1, h2, h3, h4, h5, h6, h7, h8⟩ := x.has _ _ hg
        obtain ⟨w', cells', r1, r2, r3, r4, r5, r6, r7, r8⟩ := run_storeRow P tv fz b (o + off) ys 0 w cells h2 (by rw [h3]; exact h7 hb1') (VL.one hb3 hv) (by omega)
        have hsl : (splice cells.toList (o + off + 0) ys).length = cells.toList.length := splice_length _ _ _ (by simp; omega)
        have hsz : cells'.size = cells.size := by rw [← Array.length_toList, r3, hsl, Array.length_toList]
        have hcl := splice_length cs off vs hb2'
        obtain ⟨q1, q2⟩ := x.put hg (by simp [wr]; exact hb1') h1 r4 r5 r6 r7 r8 (blk := .row (splice cs off vs) ty opn md) (by
          refine ⟨b, o, m, cells', fz, tv, h1, r2, by omega, by rw [hcl]; exact h4, by rw [hcl]; exact h5, ?_, h7, h8⟩
          rw [hcl, r3]
          have := VL.splice h6 hv off hb2'
          refine (VL_iff _ _).2 ⟨?_, fun i a v ha hv' => ?_⟩
          · rw [hcl, List.length_take, List.length_drop, hsl]; simp; omega
          · refine ((VL_iff _ _).1 this).2 i a v ha ?_
            rw [splice_get _ _ _ _ (by simp; omega)]
            rw [List.getElem?_take, List.getElem?_drop, splice_get _ _ _ _ (by simp; omega)] at hv'
            split at hv'
            · rename_i hi
              by_cases hj : off ≤ i ∧ i < off + ys.length
              · rw [if_pos (by omega)] at hv'
                rw [if_pos hj, ← hv']; congr 1; omega
              · rw [if_neg (by omega)] at hv'
                rw [if_neg hj, List.getElem?_take, List.getElem?_drop, if_pos hi, hv']
            · simp at hv')
        exact ⟨b, o, m, w', h1, r1, q1, q2⟩

/-- What is not known of types: an operation's own questions. -/
theorem size?_ok {P : Program} {t : TypeId} {n : Nat} (h : size? P t = some n) : ∃ i, P.info? t = some i ∧ i.size = n := by
  unfold size? at h
  cases hi : P.info? t with
  | none => simp [hi] at h
  | some i => simp [hi] at h; exact ⟨i, rfl, h⟩

theorem run_typeInfo {P : Program} {t : TypeId} {i : TypeInfo} (h : P.info? t = some i) (w : World) : (typeInfo t).run P w = .ok i w := by
  simp [typeInfo, h]
theorem run_sizeOf {P : Program} {t : TypeId} {n : Nat} (h : size? P t = some n) (w : World) : (sizeOf t).run P w = .ok n w := by
  obtain ⟨i, hi, rfl⟩ := size?_ok h
  simp [sizeOf, run_typeInfo hi]
theorem run_under {P : Program} {t : TypeId} {d : TypeDesc} (h : P.underlying t = some d) (w : World) : (underlying t).run P w = .ok d w := by
  simp [underlying, h]
theorem run_isAgg {P : Program} {t : TypeId} {b : Bool} (h : agg? P t = some b) (w : World) : (isAgg t).run P w = .ok b w := by
  unfold agg? at h
  split at h
  · rename_i heq; simp at h; subst h; simp [isAgg, run_under heq]
  · rename_i heq; simp at h; subst h; simp [isAgg, run_under heq]
  · rename_i d n1 n2 heq
    simp at h; subst h
    simp only [isAgg, Sem.run_bind, run_under heq, Result.andThen_ok]
    cases d <;> first | rfl | (exact absurd heq (n1 _)) | (exact absurd heq (n2 _ _))
  · simp at h
theorem run_zeroValue {P : Program} {t : TypeId} {z : AV} (h : zero? P t = some z) (w : World) (σ : Sg) : ∃ v, (zeroValue t).run P w = .ok v w ∧ V σ z v ∧ ∃ i, P.info? t = some i ∧ i.zero = some v := by
  unfold zero? at h
  cases hi : P.info? t with
  | none => simp [hi] at h
  | some i =>
    simp only [hi] at h
    cases hz : i.zero with
    | none => simp [hz] at h
    | some v =>
      simp only [hz] at h
      exact ⟨v, by simp [zeroValue, run_typeInfo hi, hz], ofV_ok h, i, rfl, hz⟩

theorem loadV_ok {σ : Sg} {h : Hp} {w : World} (x : HR σ h w) {P : Program} {t : TypeId} {id off : Nat} {a : AV} (hl : loadV P h t id off = some a) :
    ∃ b o m v, σ id = some (b, o, m) ∧ (loadVar t ⟨b, o + off, none⟩).run P w = .ok v w ∧ V σ a v := by
  unfold loadV at hl
  cases hag : agg? P t with
  | none => simp [hag] at hl
  | some g =>
    cases g with
    | true =>
      simp only [hag] at hl
      cases hn : size? P t with
      | none => simp [hn] at hl
      | some n =>
        simp only [hn] at hl
        cases hc : loadC h id off n with
        | none => simp [hc] at hl
        | some l =>
          simp [hc] at hl; subst hl
          obtain ⟨b, o, m, ys, h1, h2, h3, _⟩ := loadC_ok x (P := P) hc
          exact ⟨b, o, m, .agg ⟨ys⟩, h1, by simp [loadVar, run_isAgg hag, run_sizeOf hn, h2], ys, h3, rfl⟩
    | false =>
      simp only [hag] at hl
      unfold row? at hl
      cases hg : h.get id with
      | none => simp [hg] at hl
      | some blk =>
        cases blk with
        | amap => simp [hg] at hl
        | row cs ty opn md =>
          simp only [hg] at hl
          obtain ⟨b, o, m, cells, fz, tv, h1, h2, h3, h4, h5, h6, h7⟩ := x.has _ _ hg
          obtain ⟨v, hv, hV⟩ := VL.get h6 hl
          refine ⟨b, o, m, v, h1, ?_, hV⟩
          rw [List.getElem?_take, List.getElem?_drop] at hv
          have hc : w.cell? ⟨b, o + off, none⟩ = some v := by
            rw [cell_row h2]; split at hv
            · exact hv
            · simp at hv
          simp [loadVar, run_isAgg hag, hc]
end
end Go.Proofs.Ytfaocndelibadaa.Ev

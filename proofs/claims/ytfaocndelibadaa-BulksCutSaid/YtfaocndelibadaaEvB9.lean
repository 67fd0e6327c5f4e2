/-
  Helper text: what a contract leaves behind, as rows of our own machine that are only read; no statement is proved here.
-/
import Derived.Test.YtfaocndelibadaaEvV
namespace Go.Proofs.Ytfaocndelibadaa.Ev
noncomputable section
open Go Go.RowKit

/-- A row more that is only read. -/
theorem HR.addRO {σ : Sg} {h : Hp} {w : World} (x : HR σ h w) {id : Nat} {p : Nat × Nat × Nat} (hn : σ id = none) {cs : List AV} {ty : TypeId} (hb : BR (upd σ id p) w id (.row cs ty true 2))
    (hw : ∀ j bj q, h.get j = some bj → σ j = some q → q.1 = p.1 → wr bj = false) : HR (upd σ id p) (h.set fuelT id (some (.row cs ty true 2))) w := by
  have hle : Le σ (upd σ id p) := upd_le hn
  have old : ∀ i bi, h.get i = some bi → ∃ q, σ i = some q ∧ upd σ id p i = some q := fun i bi hi => by
    obtain ⟨q, hq, _⟩ := (x.has i bi hi).lt
    exact ⟨q, hq, hle _ _ hq⟩
  refine ⟨fun i b hi => ?_, fun i j bi bj q r hi hj hq hr he hwr => ?_⟩
  · rcases Tr.get_set _ _ _ _ _ _ hi with ⟨rfl, e⟩ | ⟨hne, hi⟩
    · obtain rfl := Option.some.inj e; exact hb
    · exact (x.has i b hi).mono hle fun _ _ => rfl
  · rcases Tr.get_set _ _ _ _ _ _ hi with ⟨rfl, ei⟩ | ⟨hni, hi2⟩ <;> rcases Tr.get_set _ _ _ _ _ _ hj with ⟨e, ej⟩ | ⟨hnj, hj2⟩
    · exact e.symm
    · obtain rfl := Option.some.inj ei
      obtain ⟨r', hr', hu⟩ := old j bj hj2
      rw [hu] at hr; obtain rfl := Option.some.inj hr
      rw [upd_same] at hq; obtain rfl := Option.some.inj hq
      have := hw j bj _ hj2 hr' he.symm
      rw [this] at hwr
      simp [wr] at hwr
    · obtain rfl := Option.some.inj ej
      obtain ⟨q', hq', hu⟩ := old i bi hi2
      rw [hu] at hq; obtain rfl := Option.some.inj hq
      rw [e, upd_same] at hr; obtain rfl := Option.some.inj hr
      have := hw i bi _ hi2 hq' he
      rw [this] at hwr
      simp [wr] at hwr
    · obtain ⟨q', hq', hu⟩ := old i bi hi2
      obtain ⟨r', hr', hv⟩ := old j bj hj2
      rw [hu] at hq; obtain rfl := Option.some.inj hq
      rw [hv] at hr; obtain rfl := Option.some.inj hr
      exact x.inj i j bi bj _ _ hi2 hj2 hq' hr' he hwr

/-- The row of bytes that a slice value of the world shows. -/
def ShowsB (w : World) (b off : Nat) (ps : List UInt8) : Prop := ∀ j, j < ps.length → w.cell? ⟨b, off + j, none⟩ = some (.int .u8 ((ps.getD j 0).toNat : Int))

theorem shows_BR {σ : Sg} {w : World} {b off : Nat} {ps : List UInt8} (h0 : 0 < ps.length) (h : ShowsB w b off ps) (id ty : Nat) : ∃ n, BR (upd σ id (b, off, n)) w id (.row (cellsOf ps) ty true 2) := by
  have hc0 := h 0 h0
  have hcc : ∃ cells tv fz, w.heap[b]? = some (.cells cells tv fz) := by
    unfold World.cell? at hc0
    split at hc0
    · rename_i c t f hh; exact ⟨c, t, f, hh⟩
    · simp at hc0
  obtain ⟨cells, tv, fz, hh⟩ := hcc
  have hcell : ∀ j, j < ps.length → cells.toList[off + j]? = some (.int .u8 ((ps.getD j 0).toNat : Int)) := fun j hj => by
    have := h j hj
    rwa [cell_row hh] at this
  have hlen : off + ps.length ≤ cells.toList.length := by
    have := hcell (ps.length - 1) (by omega)
    obtain ⟨h1, _⟩ := List.getElem?_eq_some_iff.1 this
    omega
  refine ⟨cells.size, b, off, cells.size, cells, fz, tv, upd_same _ _ _, hh, rfl, by simp [cellsOf]; simp at hlen; exact hlen, fun e => by simp at e, ?_, fun e => by simp at e, fun e => by simp at e⟩
  refine (VL_iff _ _).2 ⟨by simp [cellsOf]; simp at hlen; omega, fun j a v ha hv => ?_⟩
  have hj : j < ps.length := by
    have := (List.getElem?_eq_some_iff.1 ha).1
    simpa [cellsOf] using this
  rw [List.getElem?_take, List.getElem?_drop, if_pos (by simpa [cellsOf] using hj), hcell j hj] at hv
  obtain rfl := Option.some.inj hv
  simp only [cellsOf, List.getElem?_map, List.getElem?_eq_getElem hj, Option.map_some, Option.some.injEq] at ha
  subst ha
  simp [V, List.getD, List.getElem?_eq_getElem hj]

def emptyB : List UInt8 → Bool
  | [] => true
  | _ => false

/-- Rows for the slices of bytes that a contract has left, from a number on. -/
def layPk (ty : TypeId) : List (List UInt8) → Nat → Hp → Hp
  | [], _, h => h
  | ps :: l, id, h => layPk ty l (id + 1) (bif emptyB ps then h else h.set fuelT id (some (.row (cellsOf ps) ty true 2)))
/-- What stands for them. -/
def pkCells : List (List UInt8) → Nat → List AV
  | [], _ => []
  | ps :: l, id => (bif emptyB ps then .esl else .sl id 0 ps.length (.known ps.length)) :: pkCells l (id + 1)
theorem pkCells_length : ∀ (l : List (List UInt8)) (id : Nat), (pkCells l id).length = l.length
  | [], _ => rfl
  | _ :: l, id => by simp [pkCells, pkCells_length l (id + 1)]

/-- A value that is a slice of bytes whose block lies among F. -/
def SlB (F : Nat → Prop) (w : World) (v : Value) (ps : List UInt8) : Prop := ∃ A, v = .slice A ps.length ps.length ∧ (0 < ps.length → ∃ b off, A = some ⟨b, off, none⟩ ∧ F b ∧ ShowsB w b off ps)

/-- What was laid over memory of ours. -/
structure Over (F : Nat → Prop) (σ : Sg) (h : Hp) (τ : Sg) (h' : Hp) (a b : Nat) : Prop where
  le : Le σ τ
  ext : Ext σ τ a b
  rows : ∀ j bj, h'.get j = some bj → (h.get j = some bj ∧ τ j = σ j) ∨ (wr bj = false ∧ ∃ q, τ j = some q ∧ F q.1)

theorem lay_ok {F : Nat → Prop} {w : World} {ty : TypeId} : ∀ {pss : List (List UInt8)} {vs : List Value} {σ : Sg} {h : Hp} {id : Nat}, HR σ h w → vs.length = pss.length → (∀ (i : Nat) v ps, vs[i]? = some v → pss[i]? = some ps → SlB F w v ps) → Fresh σ id (id + pss.length) →
    (∀ j bj q, h.get j = some bj → σ j = some q → F q.1 → wr bj = false) → ∃ τ, HR τ (layPk ty pss id h) w ∧ VL τ (pkCells pss id) vs ∧ Over F σ h τ (layPk ty pss id h) id (id + pss.length)
  | [], vs, σ, h, id, x, hl, _, hf, _ => by
    have : vs = [] := List.length_eq_zero_iff.1 hl
    subst this
    exact ⟨σ, x, rfl, Le.refl _, Ext.refl _ _ _, fun j bj hj => .inl ⟨hj, rfl⟩⟩
  | ps :: pss, [], σ, h, id, x, hl, _, _, _ => by simp at hl
  | ps :: pss, v :: vs, σ, h, id, x, hl, hv, hf, hw => by
    obtain ⟨A, rfl, hA⟩ := hv 0 v ps rfl rfl
    have hv' : ∀ (i : Nat) v ps, vs[i]? = some v → pss[i]? = some ps → SlB F w v ps := fun i v ps h1 h2 => hv (i + 1) v ps (by simpa using h1) (by simpa using h2)
    cases he : emptyB ps with
    | true =>
      have h0 : ps = [] := by cases ps with | nil => rfl | cons _ _ => simp [emptyB] at he
      subst h0
      obtain ⟨τ, k1, k2, k3⟩ := lay_ok (ty := ty) (id := id + 1) x (by simpa using hl) hv' (fun j h1 h2 => hf j (by omega) (by simp; omega)) hw
      refine ⟨τ, by simpa [layPk, he] using k1, ?_, ?_⟩
      · simp only [pkCells, he, cond_true]
        exact VL.cons ⟨A, 0, rfl⟩ k2
      · simp only [layPk, he, cond_true]
        exact ⟨k3.le, fun j hj => k3.ext j (by simp at hj; omega), k3.rows⟩
    | false =>
      have h0 : 0 < ps.length := by cases ps with | nil => simp [emptyB] at he | cons _ _ => simp
      obtain ⟨b, off, rfl, hF, hs⟩ := hA h0
      obtain ⟨n, hbr⟩ := shows_BR (σ := σ) h0 hs id ty
      have x1 := x.addRO (hf id (Nat.le_refl _) (by simp)) hbr fun j bj q hj hq e => hw j bj q hj hq (by rw [e]; exact hF)
      have hle : Le σ (upd σ id (b, off, n)) := upd_le (hf id (Nat.le_refl _) (by simp))
      obtain ⟨τ, k1, k2, k3⟩ := lay_ok (ty := ty) (id := id + 1) x1 (by simpa using hl) hv' (fun j h1 h2 => by simp only [upd]; rw [if_neg (by omega)]; exact hf j (by omega) (by simp; omega)) (fun j bj q hj hq hFq => by
        rcases Tr.get_set _ _ _ _ _ _ hj with ⟨rfl, e⟩ | ⟨hne, hj⟩
        · obtain rfl := Option.some.inj e; rfl
        · simp only [upd, if_neg hne] at hq
          exact hw j bj q hj hq hFq)
      refine ⟨τ, by simpa [layPk, he] using k1, ?_, ?_⟩
      · simp only [pkCells, he, cond_false]
        refine VL.cons ⟨b, off, n, k3.le _ _ (upd_same _ _ _), ps.length, by simp, rfl⟩ k2
      · simp only [layPk, he, cond_false]
        refine ⟨hle.trans k3.le, fun j hj => ?_, fun j bj hj => ?_⟩
        · simp at hj
          rw [k3.ext j (by omega)]
          simp only [upd]; rw [if_neg (by omega)]
        · rcases k3.rows j bj hj with ⟨h1, h2⟩ | h1
          · rcases Tr.get_set _ _ _ _ _ _ h1 with ⟨rfl, e⟩ | ⟨hne, h1⟩
            · obtain rfl := Option.some.inj e
              exact .inr ⟨rfl, _, k3.le _ _ (upd_same _ _ _), hF⟩
            · refine .inl ⟨h1, ?_⟩
              rw [h2]; simp only [upd]; rw [if_neg hne]
          · exact .inr h1
end
end Go.Proofs.Ytfaocndelibadaa.Ev

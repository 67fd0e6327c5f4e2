/-
  Helper text: regions that draw their order, in our own machine: what is known of what was done; no statement is proved here.
-/
import Derived.Test.YtgihpgdjkanodaaGreatDoorEvQ
namespace Go.Proofs.YtgihpgdjkanodaaGreatDoor.Ev
noncomputable section
open Go Go.RowKit

theorem pre_get {α : Type} {l m : List α} (p : l <+: m) {k : Nat} {x : α} (h : l[k]? = some x) : m[k]? = some x := by
  obtain ⟨t, rfl⟩ := p
  have : k < l.length := by
    rcases Nat.lt_or_ge k l.length with a | a
    · exact a
    · rw [List.getElem?_eq_none a] at h; simp at h
  rw [List.getElem?_append_left this]; exact h

theorem pre_back {α : Type} {l m : List α} (p : l <+: m) {k : Nat} (hk : k < l.length) {x : α} (h : m[k]? = some x) : l[k]? = some x := by
  obtain ⟨t, rfl⟩ := p
  rw [List.getElem?_append_left hk] at h; exact h

def anc (ms : List Nat) (i j : Nat) : Prop := (ms.getD i 0).testBit j = true

def SubH (ms : List Nat) (recs : List Rc) (Hs : List Hp) (i k s : Nat) (X : Hp) : Prop := ∀ id blk, X.get id = some blk → (∃ H, Hs[k]? = some H ∧ H.get id = some blk) ∨ (∃ q ∈ recs, q.s ≤ s ∧ anc ms i q.i ∧ k ≤ q.s ∧ q.al = some blk ∧ q.lo = id)

def Seen (ms : List Nat) (T0 : Tr AV) (dsts : List (Nat × Nat)) (recs : List Rc) (i : Nat) (look : Nat → Option AV) : Prop :=
  ∀ t v, look t = some v → (∃ q ∈ recs, q.d = some t ∧ anc ms i q.i ∧ q.v = v) ∨ (T0.get t = some v ∧ ∀ p ∈ dsts, p.2 = t → anc ms p.1 i)

/-- How an operation was done. -/
inductive Kind (P : Program) (call : Callee) (ms : List Nat) (recs : List Rc) (Hs : List Hp) (r : Rc) (o : Oper) (ρ : Rho) : Prop where
  | still (hv : r.hv = false) (hr : r.lo = r.hi) (ha : r.al = none) (h : ∀ k n, aop P ρ o k n = some (.val r.v k n))
  | make (hv : r.hv = false) (hr : r.hi = r.lo + 1) (blk : Blk) (ha : r.al = some blk) (hg : (Tr.leaf.set fuelT r.lo (some blk)).get r.lo = some blk) (hn : ∀ j, j ≤ r.s → ∀ H, Hs[j]? = some H → H.get r.lo = none) (h : aop P ρ o .leaf r.lo = some (.val r.v (Tr.leaf.set fuelT r.lo (some blk)) (r.lo + 1)))
  | read (hv : r.hv = false) (hr : r.lo = r.hi) (ha : r.al = none) (h : ∀ k, (∀ q ∈ recs, q.hv = true → anc ms r.i q.i → q.s < k) → k ≤ r.s → ∃ X, SubH ms recs Hs r.i k r.s X ∧ aop P ρ o X 0 = some (.val r.v X 0))
  | great (hv : r.hv = true) (hr : r.lo ≤ r.hi) (ha : r.al = none) (X H : Hp) (hs : SubH ms recs Hs r.i r.s r.s X) (hH : Hs[r.s + 1]? = some H) (h : aStep P call ρ o X r.lo = some (r.v, H, r.hi))

structure RecOK (P : Program) (call : Callee) (ops : Array Oper) (ms : List Nat) (T0 : Tr AV) (dsts : List (Nat × Nat)) (recs : List Rc) (Hs : List Hp) (r : Rc) : Prop where
  is : ∃ o look, ops[r.i]? = some o ∧ r.d = o.dst ∧ Seen ms T0 dsts recs r.i look ∧
    ((wantedR ops o look = some false ∧ r.v = .tup [] ∧ r.lo = r.hi ∧ r.al = none ∧ r.hv = false) ∨ (wantedR ops o look = some true ∧ Kind P call ms recs Hs r o (rhoR look)))

structure DrOK (P : Program) (call : Callee) (ops : Array Oper) (ms : List Nat) (T0 : Tr AV) (dsts : List (Nat × Nat)) (h0 : Hp) (n0 : Nat) (dr : Dr) : Prop where
  recs : ∀ r ∈ dr.recs, RecOK P call ops ms T0 dsts dr.recs dr.Hs r
  pos : 1 ≤ dr.Hs.length
  first : dr.Hs[0]? = some h0
  nx : n0 ≤ dr.nx
  rng : ∀ r ∈ dr.recs, n0 ≤ r.lo ∧ r.lo ≤ r.hi ∧ r.hi ≤ dr.nx
  apart : ∀ r ∈ dr.recs, ∀ q ∈ dr.recs, r.i ≠ q.i → r.hi ≤ q.lo ∨ q.hi ≤ r.lo
  stg : ∀ r ∈ dr.recs, r.s + 1 ≤ dr.Hs.length ∧ (r.hv = true → r.s + 2 ≤ dr.Hs.length)
  hvu : ∀ r ∈ dr.recs, ∀ q ∈ dr.recs, r.hv = true → q.hv = true → r.s = q.s → r.i = q.i
  all : ∀ k, k + 2 ≤ dr.Hs.length → ∃ r ∈ dr.recs, r.hv = true ∧ r.s = k
  ord : ∀ r ∈ dr.recs, ∀ q ∈ dr.recs, q.hv = true → r.i ≠ q.i → (r.s = q.s ∨ (r.hv = true ∧ r.s + 1 = q.s)) → anc ms q.i r.i

theorem Seen.mono {ms : List Nat} {T0 : Tr AV} {dsts : List (Nat × Nat)} {recs recs' : List Rc} {i : Nat} {look : Nat → Option AV} (h : Seen ms T0 dsts recs i look) (s : ∀ r ∈ recs, r ∈ recs') : Seen ms T0 dsts recs' i look := fun t v hv => by
  rcases h t v hv with ⟨q, hq, r⟩ | r
  · exact .inl ⟨q, s q hq, r⟩
  · exact .inr r
theorem SubH.mono {ms : List Nat} {recs recs' : List Rc} {Hs Hs' : List Hp} {i k n : Nat} {X : Hp} (h : SubH ms recs Hs i k n X) (s : ∀ r ∈ recs, r ∈ recs') (p : Hs <+: Hs') : SubH ms recs' Hs' i k n X := fun id blk hx => by
  rcases h id blk hx with ⟨H, h1, h2⟩ | ⟨q, hq, r⟩
  · exact .inl ⟨H, pre_get p h1, h2⟩
  · exact .inr ⟨q, s q hq, r⟩
theorem Kind.mono {P : Program} {call : Callee} {ms : List Nat} {recs recs' : List Rc} {Hs Hs' : List Hp} {r : Rc} {o : Oper} {ρ : Rho} (h : Kind P call ms recs Hs r o ρ) (s : ∀ r ∈ recs, r ∈ recs') (p : Hs <+: Hs') (hl : r.s + 1 ≤ Hs.length) : Kind P call ms recs' Hs' r o ρ := by
  cases h with
  | still hv hr ha h => exact .still hv hr ha h
  | make hv hr blk ha hg hn h => exact .make hv hr blk ha hg (fun j hj H hH => hn j hj H (pre_back p (by omega) hH)) h
  | read hv hr ha h => exact .read hv hr ha fun k hk hs => let ⟨X, h1, h2⟩ := h k (fun q hq => hk q (s q hq)) hs; ⟨X, h1.mono s p, h2⟩
  | great hv hr ha X H hs hH h => exact .great hv hr ha X H (hs.mono s p) (pre_get p hH) h
theorem RecOK.mono {P : Program} {call : Callee} {ops : Array Oper} {ms : List Nat} {T0 : Tr AV} {dsts : List (Nat × Nat)} {recs recs' : List Rc} {Hs Hs' : List Hp} {r : Rc} (h : RecOK P call ops ms T0 dsts recs Hs r) (s : ∀ r ∈ recs, r ∈ recs') (p : Hs <+: Hs') (hl : r.s + 1 ≤ Hs.length) : RecOK P call ops ms T0 dsts recs' Hs' r := by
  obtain ⟨o, look, h1, h2, h3, h4⟩ := h.is
  refine ⟨o, look, h1, h2, h3.mono s, ?_⟩
  rcases h4 with h4 | ⟨h4, h5⟩
  · exact .inl h4
  · exact .inr ⟨h4, h5.mono s p hl⟩

theorem dIs_ok {d : Option Tmp} {t : Nat} (h : dIs d t = true) : d = some t := by
  unfold dIs at h
  split at h
  · rw [Nat.eq_of_beq_eq_true h]
  · simp at h

theorem lookR_ok {T0 : Tr AV} {dsts : List (Nat × Nat)} {late : Nat → Bool} {mask : Nat} : ∀ {recs : List Rc} {t : Nat} {v : AV}, lookR T0 dsts late mask recs t = some v → (∃ q ∈ recs, q.d = some t ∧ mask.testBit q.i = true ∧ q.v = v) ∨ (T0.get t = some v ∧ ∀ p ∈ dsts, p.2 = t → late p.1 = true)
  | [], t, v, h => by
    simp only [lookR] at h
    cases hb : dsts.all (fun p => !(Nat.beq p.2 t) || late p.1) with
    | false => simp [hb] at h
    | true =>
      simp only [hb, cond_true] at h
      refine .inr ⟨h, fun p hp e => ?_⟩
      have := (List.all_eq_true.1 hb) p hp
      subst e
      simpa [Nat.beq_refl] using this
  | r :: l, t, v, h => by
    simp only [lookR] at h
    cases hd : dIs r.d t with
    | true =>
      simp only [hd, cond_true] at h
      cases hm : mask.testBit r.i with
      | true => simp only [hm, cond_true] at h; exact .inl ⟨r, by simp, dIs_ok hd, hm, Option.some.inj h⟩
      | false => simp [hm] at h
    | false =>
      simp only [hd, cond_false] at h
      rcases lookR_ok h with ⟨q, hq, r⟩ | r
      · exact .inl ⟨q, by simp [hq], r⟩
      · exact .inr r

theorem addAls_ok {mask k : Nat} : ∀ {recs : List Rc} {H : Hp} {id : Nat} {blk : Blk}, (addAls mask k recs H).get id = some blk → H.get id = some blk ∨ ∃ q ∈ recs, mask.testBit q.i = true ∧ k ≤ q.s ∧ q.al = some blk ∧ q.lo = id
  | [], H, id, blk, h => .inl h
  | r :: l, H, id, blk, h => by
    simp only [addAls] at h
    split at h
    · rename_i b hb
      cases hc : (Nat.ble k r.s && mask.testBit r.i) with
      | true =>
        simp only [hc, cond_true] at h
        simp only [Bool.and_eq_true] at hc
        rcases addAls_ok h with h | ⟨q, hq, r⟩
        · rcases Tr.get_set _ _ _ _ _ _ h with ⟨rfl, e⟩ | ⟨_, h⟩
          · obtain rfl := Option.some.inj e
            exact .inr ⟨r, by simp, hc.2, Nat.le_of_ble_eq_true hc.1, hb, rfl⟩
          · exact .inl h
        · exact .inr ⟨q, by simp [hq], r⟩
      | false =>
        simp only [hc, cond_false] at h
        rcases addAls_ok h with h | ⟨q, hq, r⟩
        · exact .inl h
        · exact .inr ⟨q, by simp [hq], r⟩
    · rcases addAls_ok h with h | ⟨q, hq, r⟩
      · exact .inl h
      · exact .inr ⟨q, by simp [hq], r⟩

theorem addAll_ok {k : Nat} : ∀ {recs : List Rc} {H : Hp} {id : Nat} {blk : Blk}, (addAll k recs H).get id = some blk → H.get id = some blk ∨ ∃ q ∈ recs, k ≤ q.s ∧ q.al = some blk ∧ q.lo = id
  | [], H, id, blk, h => .inl h
  | r :: l, H, id, blk, h => by
    simp only [addAll] at h
    split at h
    · rename_i b hb
      cases hc : Nat.ble k r.s with
      | true =>
        simp only [hc, cond_true] at h
        rcases addAll_ok h with h | ⟨q, hq, r⟩
        · rcases Tr.get_set _ _ _ _ _ _ h with ⟨rfl, e⟩ | ⟨_, h⟩
          · obtain rfl := Option.some.inj e
            exact .inr ⟨r, by simp, Nat.le_of_ble_eq_true hc, hb, rfl⟩
          · exact .inl h
        · exact .inr ⟨q, by simp [hq], r⟩
      | false =>
        simp only [hc, cond_false] at h
        rcases addAll_ok h with h | ⟨q, hq, r⟩
        · exact .inl h
        · exact .inr ⟨q, by simp [hq], r⟩
    · rcases addAll_ok h with h | ⟨q, hq, r⟩
      · exact .inl h
      · exact .inr ⟨q, by simp [hq], r⟩

theorem loOf_le {mask k : Nat} : ∀ {recs : List Rc}, (∀ q ∈ recs, q.hv = true → mask.testBit q.i = true → q.s < k) → loOf mask recs ≤ k
  | [], _ => by simp [loOf]
  | r :: l, h => by
    have ih := loOf_le (mask := mask) (k := k) (recs := l) fun q hq => h q (by simp [hq])
    simp only [loOf]
    cases hc : (r.hv && mask.testBit r.i) with
    | true =>
      simp only [hc, cond_true]
      simp only [Bool.and_eq_true] at hc
      have := h r (by simp) hc.1 hc.2
      exact Nat.max_le.2 ⟨this, ih⟩
    | false => simp only [hc, cond_false]; exact ih

section
variable {P : Program} {call : Callee} {ops : Array Oper} {ms : List Nat} {T0 : Tr AV} {dsts : List (Nat × Nat)} {h0 : Hp} {n0 : Nat}

theorem readAt_ok {ρ : Rho} {o : Oper} {i : Nat} {dr : Dr} {k : Nat} {v : AV} {n : Nat} (hs : ∀ q ∈ dr.recs, q.s ≤ n) (hc : cls o.op = 2) (h : readAt P ρ o (ms.getD i 0) dr k = some v) : ∃ X, SubH ms dr.recs dr.Hs i k n X ∧ aop P ρ o X 0 = some (.val v X 0) := by
  unfold readAt at h
  split at h
  · rename_i H hH
    split at h
    · rename_i u hp n ha
      cases hn : Nat.beq n 0 with
      | false => simp [hn] at h
      | true =>
        simp only [hn, cond_true] at h
        obtain rfl := Option.some.inj h
        obtain rfl := Nat.eq_of_beq_eq_true hn
        refine ⟨addAls (ms.getD i 0) k dr.recs H, fun id blk hx => ?_, ?_⟩
        · rcases addAls_ok hx with hx | ⟨q, hq, r⟩
          · exact .inl ⟨H, hH, hx⟩
          · exact .inr ⟨q, hq, hs q hq, r⟩
        · rcases aop_read hc ha with ⟨v', e⟩ | e
          · simp at e; obtain ⟨rfl, rfl⟩ := e; exact ha
          · simp [Out.nx] at e
    · simp at h
  · simp at h

/-- A record more. -/
theorem DrOK.more {dr : Dr} (x : DrOK P call ops ms T0 dsts h0 n0 dr) {r : Rc} (hs : r.s = dr.Hs.length - 1) (hlo : r.lo = dr.nx) (hhi : r.lo ≤ r.hi) (hh : r.hv = false)
    (hr : RecOK P call ops ms T0 dsts (r :: dr.recs) dr.Hs r) : DrOK P call ops ms T0 dsts h0 n0 { dr with recs := r :: dr.recs, nx := r.hi } := by
  have hp := x.pos
  refine ⟨fun q hq => ?_, x.pos, x.first, by have := x.nx; simp; omega, fun q hq => ?_, fun q hq q' hq' hne => ?_, fun q hq => ?_, fun q hq q' hq' a b c => ?_, fun k hk => ?_, fun q hq q' hq' a b c => ?_⟩
  · rcases List.mem_cons.1 hq with rfl | hq
    · exact hr
    · exact (x.recs q hq).mono (fun r hr => by simp [hr]) (List.prefix_refl _) (x.stg q hq).1
  · rcases List.mem_cons.1 hq with rfl | hq
    · have := x.nx; simp; omega
    · have := x.rng q hq; simp; omega
  · rcases List.mem_cons.1 hq with e | hq2 <;> rcases List.mem_cons.1 hq' with e' | hq2'
    · exact absurd (by rw [e, e']) hne
    · subst e; have := x.rng q' hq2'; right; omega
    · subst e'; have := x.rng q hq2; left; omega
    · exact x.apart q hq2 q' hq2' hne
  · rcases List.mem_cons.1 hq with rfl | hq
    · exact ⟨by simp; omega, fun e => by rw [hh] at e; simp at e⟩
    · exact x.stg q hq
  · rcases List.mem_cons.1 hq with rfl | hq
    · rw [hh] at a; simp at a
    · rcases List.mem_cons.1 hq' with rfl | hq'
      · rw [hh] at b; simp at b
      · exact x.hvu q hq q' hq' a b c
  · obtain ⟨q, hq, r⟩ := x.all k hk
    exact ⟨q, by simp [hq], r⟩
  · rcases List.mem_cons.1 hq' with e' | hq2'
    · subst e'; rw [hh] at a; simp at a
    · rcases List.mem_cons.1 hq with e | hq2
      · subst e
        have := (x.stg q' hq2').2 a
        rcases c with c | ⟨c, _⟩
        · omega
        · rw [hh] at c; simp at c
      · exact x.ord q hq2 q' hq2' a b c

theorem stepR_ok {i : Nat} {dr dr' : Dr} (x : DrOK P call ops ms T0 dsts h0 n0 dr) (h : stepR P call ops ms T0 dsts i dr = some dr') : DrOK P call ops ms T0 dsts h0 n0 dr' := by
  cases ho : ops[i]? with
  | none => simp [stepR, ho] at h
  | some o =>
    have hp := x.pos
    have hseen : ∀ r : Rc, Seen ms T0 dsts (r :: dr.recs) i (lookR T0 dsts (lateB ms i) (ms.getD i 0) dr.recs) := fun r t v hv => by
      rcases lookR_ok hv with ⟨q, hq, e⟩ | e
      · exact .inl ⟨q, by simp [hq], e⟩
      · exact .inr e
    simp only [stepR, ho] at h
    cases hw : wantedR ops o (lookR T0 dsts (lateB ms i) (ms.getD i 0) dr.recs) with
    | none => simp only [hw] at h; simp at h
    | some b =>
     cases b with
     | false =>
      simp only [hw] at h
      obtain rfl := Option.some.inj h
      exact x.more (r := ⟨i, o.dst, .tup [], dr.Hs.length - 1, dr.nx, dr.nx, none, false⟩) rfl rfl (Nat.le_refl _) rfl ⟨o, _, ho, rfl, hseen _, .inl ⟨hw, rfl, rfl, rfl, rfl⟩⟩
     | true =>
      simp only [hw] at h
      split at h
      · rename_i hc
        split at h
        · rename_i v hh n ha
          obtain rfl := Option.some.inj h
          obtain ⟨v', e, hk⟩ := aop_pure hc ha
          simp at e; obtain ⟨rfl, _, _⟩ := e
          exact x.more (r := ⟨i, o.dst, v, dr.Hs.length - 1, dr.nx, dr.nx, none, false⟩) rfl rfl (Nat.le_refl _) rfl ⟨o, _, ho, rfl, hseen _, .inr ⟨hw, .still rfl rfl rfl hk⟩⟩
        · simp at h
      · rename_i hc
        split at h
        · rename_i v hh n ha
          split at h
          · rename_i b hb
            simp only [Bool.cond_eq_ite] at h
            split at h
            case isFalse => simp at h
            rename_i hnone
            obtain rfl := Option.some.inj h
            obtain ⟨v', blk, e, hk⟩ := aop_make hc ha
            simp at e; obtain ⟨rfl, rfl, rfl⟩ := e
            have hbb : b = blk := by
              rcases Tr.get_set _ _ _ _ _ _ hb with ⟨_, e⟩ | ⟨e, _⟩
              · exact (Option.some.inj e).symm
              · exact absurd rfl e
            subst hbb
            exact x.more (r := ⟨i, o.dst, v, dr.Hs.length - 1, dr.nx, dr.nx + 1, some b, false⟩) rfl rfl (by simp) rfl ⟨o, _, ho, rfl, hseen _, .inr ⟨hw, .make rfl rfl b rfl hb (fun j _ H hH => by
              have := (List.all_eq_true.1 hnone) H (List.mem_of_getElem? hH)
              simpa using this) ha⟩⟩
          · simp at h
        · simp at h
      · rename_i hc
        split at h
        · rename_i v hv
          simp only [Bool.cond_eq_ite] at h
          split at h
          case isFalse => simp at h
          case isTrue hall =>
            obtain rfl := Option.some.inj h
            refine x.more (r := ⟨i, o.dst, v, dr.Hs.length - 1, dr.nx, dr.nx, none, false⟩) rfl rfl (Nat.le_refl _) rfl ⟨o, _, ho, rfl, hseen _, .inr ⟨hw, .read rfl rfl rfl fun k hk hks => ?_⟩⟩
            have hlo : loOf (ms.getD i 0) dr.recs ≤ k := loOf_le fun q hq a b => hk q (by simp [hq]) a b
            have hst : ∀ q ∈ dr.recs, q.s ≤ dr.Hs.length - 1 := fun q hq => by have := (x.stg q hq).1; omega
            have fin : ∃ X, SubH ms dr.recs dr.Hs i k (dr.Hs.length - 1) X ∧ aop P (rhoR (lookR T0 dsts (lateB ms i) (ms.getD i 0) dr.recs)) o X 0 = some (.val v X 0) := by
              by_cases hkk : k = dr.Hs.length - 1
              · subst hkk; exact readAt_ok hst hc hv
              · have hj := (List.all_eq_true.1 hall) k (by simp at hks ⊢; omega)
                have hnb : Nat.blt k (loOf (ms.getD i 0) dr.recs) = false := by
                  cases hb : Nat.blt k (loOf (ms.getD i 0) dr.recs) with
                  | false => rfl
                  | true => rw [Nat.blt_eq] at hb; omega
                rw [hnb, Bool.false_or] at hj
                unfold agree at hj
                split at hj
                · rename_i u hu
                  rw [← AV.beq_eq _ _ hj]
                  exact readAt_ok hst hc hu
                · simp at hj
            obtain ⟨X, h1, h2⟩ := fin
            exact ⟨X, h1.mono (fun r hr => by simp [hr]) (List.prefix_refl _), h2⟩
        · simp at h
      · rename_i hc0 hc1 hc2
        cases hall : (dr.recs.all fun r => (ms.getD i 0).testBit r.i || !(Nat.beq r.s (dr.Hs.length - 1) || (r.hv && Nat.beq (r.s + 1) (dr.Hs.length - 1)))) with
        | false => simp only [hall, cond_false] at h; simp at h
        | true =>
          simp only [hall, cond_true] at h
          split at h
          · rename_i H hH
            split at h
            · rename_i v hh nx ha
              cases hle : Nat.ble dr.nx nx with
              | false => simp only [hle, cond_false] at h; simp at h
              | true =>
                simp only [hle, cond_true] at h
                obtain rfl := Option.some.inj h
                have hle' := Nat.le_of_ble_eq_true hle
                have hpre : dr.Hs <+: dr.Hs ++ [hh] := List.prefix_append _ _
                have hrec : RecOK P call ops ms T0 dsts (⟨i, o.dst, v, dr.Hs.length - 1, dr.nx, nx, none, true⟩ :: dr.recs) (dr.Hs ++ [hh]) ⟨i, o.dst, v, dr.Hs.length - 1, dr.nx, nx, none, true⟩ := by
                  refine ⟨o, _, ho, rfl, hseen _, .inr ⟨hw, .great rfl hle' rfl _ hh (fun id blk hx => ?_) ?_ ha⟩⟩
                  · rcases addAls_ok hx with hx | ⟨q, hq, e⟩
                    · exact .inl ⟨H, pre_get hpre hH, hx⟩
                    · exact .inr ⟨q, by simp [hq], by have := (x.stg q hq).1; simp; omega, e⟩
                  · simp only
                    rw [show dr.Hs.length - 1 + 1 = dr.Hs.length by omega]; simp
                refine ⟨fun q hq => ?_, by simp, pre_get hpre x.first, by have := x.nx; simp; omega, fun q hq => ?_, fun q hq q' hq' hne => ?_, fun q hq => ?_, fun q hq q' hq' a b c => ?_, fun k hk => ?_, fun q hq q' hq' a b c => ?_⟩
                · rcases List.mem_cons.1 hq with rfl | hq
                  · exact hrec
                  · exact (x.recs q hq).mono (fun r hr => by simp [hr]) hpre (x.stg q hq).1
                · rcases List.mem_cons.1 hq with rfl | hq
                  · have := x.nx; simp; omega
                  · have := x.rng q hq; simp; omega
                · rcases List.mem_cons.1 hq with e | hq2 <;> rcases List.mem_cons.1 hq' with e' | hq2'
                  · exact absurd (by rw [e, e']) hne
                  · subst e; have := x.rng q' hq2'; right; simp; omega
                  · subst e'; have := x.rng q hq2; left; simp; omega
                  · exact x.apart q hq2 q' hq2' hne
                · rcases List.mem_cons.1 hq with rfl | hq
                  · simp; omega
                  · have := x.stg q hq
                    exact ⟨by simp; omega, fun e => by have := this.2 e; simp; omega⟩
                · rcases List.mem_cons.1 hq with e | hq2 <;> rcases List.mem_cons.1 hq' with e' | hq2'
                  · rw [e, e']
                  · subst e; have := (x.stg q' hq2').2 b; simp at c; omega
                  · subst e'; have := (x.stg q hq2).2 a; simp at c; omega
                  · exact x.hvu q hq2 q' hq2' a b c
                · simp at hk
                  by_cases hkk : k + 2 ≤ dr.Hs.length
                  · obtain ⟨q, hq, e⟩ := x.all k hkk
                    exact ⟨q, by simp [hq], e⟩
                  · exact ⟨⟨i, o.dst, v, dr.Hs.length - 1, dr.nx, nx, none, true⟩, by simp, rfl, by simp; omega⟩
                · rcases List.mem_cons.1 hq' with e' | hq2'
                  · subst e'
                    rcases List.mem_cons.1 hq with e | hq2
                    · subst e; exact absurd rfl b
                    · have hj := (List.all_eq_true.1 hall) q hq2
                      simp only at c
                      have hb : (Nat.beq q.s (dr.Hs.length - 1) || (q.hv && Nat.beq (q.s + 1) (dr.Hs.length - 1))) = true := by
                        rcases c with c | ⟨c1, c2⟩
                        · rw [c, Nat.beq_refl]; rfl
                        · rw [c1, c2, Nat.beq_refl]; simp
                      rw [hb, Bool.not_true, Bool.or_false] at hj
                      exact hj
                  · rcases List.mem_cons.1 hq with e | hq2
                    · subst e
                      have := (x.stg q' hq2').2 a
                      simp at c
                      rcases c with c | c <;> omega
                    · exact x.ord q hq2 q' hq2' a b c
            · simp at h
          · simp at h

theorem runR_ok : ∀ (l : List Nat) (dr dr' : Dr), DrOK P call ops ms T0 dsts h0 n0 dr → runR P call ops ms T0 dsts l dr = some dr' → DrOK P call ops ms T0 dsts h0 n0 dr'
  | [], dr, dr', x, h => by simp only [runR] at h; obtain rfl := Option.some.inj h; exact x
  | i :: l, dr, dr', x, h => by
    simp only [runR] at h
    split at h
    · rename_i d hd; exact runR_ok l d dr' (stepR_ok x hd) h
    · simp at h
end

theorem uniqR_ok : ∀ {recs : List Rc}, uniqR recs = true → ∀ r ∈ recs, ∀ q ∈ recs, (r.i = q.i ∨ ∃ d, r.d = some d ∧ q.d = some d) → r = q
  | [], _, r, hr, _, _, _ => by simp at hr
  | c :: l, h, r, hr, q, hq, he => by
    simp only [uniqR, Bool.and_eq_true] at h
    have key : ∀ z ∈ l, ¬ (c.i = z.i ∨ ∃ d, c.d = some d ∧ z.d = some d) := fun z hz hh => by
      have := (List.all_eq_true.1 h.1) z hz
      simp only [Bool.and_eq_true, Bool.not_eq_true'] at this
      rcases hh with e | ⟨d, e1, e2⟩
      · rw [e, Nat.beq_refl] at this; simp at this
      · rw [e1, e2] at this; simp at this
    rcases List.mem_cons.1 hr with e1 | hr2 <;> rcases List.mem_cons.1 hq with e2 | hq2
    · rw [e1, e2]
    · subst e1; exact absurd he (key q hq2)
    · subst e2
      refine absurd ?_ (key r hr2)
      rcases he with e | ⟨d, e1, e2⟩
      · exact .inl e.symm
      · exact .inr ⟨d, e2, e1⟩
    · exact uniqR_ok h.2 r hr2 q hq2 he

theorem putAll_ok {nt : Nat} : ∀ {recs : List Rc} {t T : Tr AV}, putAll nt recs t = some T → (∀ d v, T.get d = some v → (∃ q ∈ recs, q.d = some d ∧ q.v = v) ∨ (t.get d = some v ∧ ∀ q ∈ recs, q.d ≠ some d)) ∧ ∀ q ∈ recs, ∀ d, q.d = some d → d < nt
  | [], t, T, h => by simp only [putAll] at h; obtain rfl := Option.some.inj h; exact ⟨fun d v hv => .inr ⟨hv, fun q hq => by simp at hq⟩, fun q hq => by simp at hq⟩
  | r :: l, t, T, h => by
    simp only [putAll] at h
    split at h
    · rename_i d hd
      cases hb : Nat.blt d nt with
      | false => simp [hb] at h
      | true =>
        simp only [hb, cond_true] at h
        obtain ⟨h1, h2⟩ := putAll_ok h
        refine ⟨fun e v hv => ?_, fun q hq e he => ?_⟩
        · rcases h1 e v hv with ⟨q, hq, z⟩ | ⟨hv, hn⟩
          · exact .inl ⟨q, by simp [hq], z⟩
          · rcases Tr.get_set _ _ _ _ _ _ hv with ⟨rfl, ee⟩ | ⟨hne, hv⟩
            · exact .inl ⟨r, by simp, hd, Option.some.inj ee⟩
            · refine .inr ⟨hv, fun q hq => ?_⟩
              rcases List.mem_cons.1 hq with rfl | hq
              · rw [hd]; simp; exact fun e => hne e.symm
              · exact hn q hq
        · rcases List.mem_cons.1 hq with rfl | hq
          · rw [hd] at he; simp at he; subst he; simpa [Nat.blt_eq] using hb
          · exact h2 q hq e he
    · rename_i hd
      obtain ⟨h1, h2⟩ := putAll_ok h
      refine ⟨fun e v hv => ?_, fun q hq e he => ?_⟩
      · rcases h1 e v hv with ⟨q, hq, z⟩ | ⟨hv, hn⟩
        · exact .inl ⟨q, by simp [hq], z⟩
        · refine .inr ⟨hv, fun q hq => ?_⟩
          rcases List.mem_cons.1 hq with rfl | hq
          · rw [hd]; simp
          · exact hn q hq
      · rcases List.mem_cons.1 hq with rfl | hq
        · rw [hd] at he; simp at he
        · exact h2 q hq e he
end
end Go.Proofs.YtgihpgdjkanodaaGreatDoor.Ev

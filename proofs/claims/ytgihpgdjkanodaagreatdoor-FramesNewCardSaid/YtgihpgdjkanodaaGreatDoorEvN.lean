/-
  Helper text: our own machine calls functions as the model does; no statement is proved here.
-/
import Derived.Test.YtgihpgdjkanodaaGreatDoorEvM
namespace Go.Proofs.YtgihpgdjkanodaaGreatDoor.Ev
noncomputable section
open Go Go.RowKit

def params : List AV → Nat → Tr AV → Tr AV
  | [], _, t => t
  | a :: l, i, t => params l (i + 1) (t.set fuelT i (some a))

def resultsA (P : Program) (st : St) : List ResultVar → Option (List AV)
  | [] => some []
  | .tmp t :: l => match st.tm.get t, resultsA P st l with
    | some v, some r => some (v :: r)
    | _, _ => none
  | .cell a t :: l => match st.tm.get a with
    | some (.ptr id off) => match loadV P st.h t id off, resultsA P st l with
      | some v, some r => some (v :: r)
      | _, _ => none
    | _ => none

def oneA : List AV → AV
  | [v] => v
  | l => .tup l

def aCall (P : Program) (draw : Callee → Draw) : Nat → Callee
  | 0, _, _, _, _ => none
  | n + 1, f, args, h, nx => match P.funcs[f]? with
    | none => none
    | some fn => match fn.body with
      | none => none
      | some body => bif Nat.ble args.length fn.ntmps then
        match aCode P (aCall P draw n) (draw (aCall P draw n)) body ⟨params args 0 .leaf, fn.ntmps, h, nx⟩ with
        | some (.normal, st) => match resultsA P st fn.results.toList with
          | some l => some (oneA l, st.h, st.nx)
          | none => none
        | some (.ret, st) => match resultsA P st fn.results.toList with
          | some l => some (oneA l, st.h, st.nx)
          | none => none
        | _ => none
        else none

theorem params_get : ∀ (l : List AV) (i : Nat) (t : Tr AV) (k : Nat) (v : AV), (params l i t).get k = some v → (i ≤ k ∧ k < i + l.length ∧ l[k - i]? = some v) ∨ ((k < i ∨ i + l.length ≤ k) ∧ t.get k = some v)
  | [], i, t, k, v, h => .inr ⟨by simp; omega, h⟩
  | a :: l, i, t, k, v, h => by
    simp only [params] at h
    rcases params_get l (i + 1) _ k v h with ⟨h1, h2, h3⟩ | ⟨h1, h2⟩
    · refine .inl ⟨by omega, by simp; omega, ?_⟩
      obtain ⟨d, rfl⟩ : ∃ d, k = i + 1 + d := ⟨k - (i + 1), by omega⟩
      rw [show i + 1 + d - (i + 1) = d by omega] at h3
      rw [show i + 1 + d - i = d + 1 by omega]
      simpa using h3
    · rcases Tr.get_set _ _ _ _ _ _ h2 with ⟨rfl, e⟩ | ⟨hne, h2⟩
      · obtain rfl := Option.some.inj e
        exact .inl ⟨Nat.le_refl _, by simp, by simp⟩
      · exact .inr ⟨by simp; omega, h2⟩

theorem results_ok {P : Program} {σ : Sg} {st : St} {a : Act} {w : World} (x : AR σ st a w) {g : ResultVar → Sem Value} (g1 : ∀ t, g (.tmp t) = pure (a.tmps.getD t undef)) (g2 : ∀ c t, g (.cell c t) = (do loadVar t (← asAddr (a.tmps.getD c undef)))) : ∀ (l : List ResultVar) (r : List AV), resultsA P st l = some r →
    ∃ ys, (l.mapM g).run P w = .ok ys w ∧ VL σ r ys
  | [], r, h => by simp [resultsA] at h; subst h; exact ⟨[], by simp, rfl⟩
  | .tmp t :: l, r, h => by
    simp only [resultsA] at h
    split at h
    · rename_i v r' hv hr
      simp at h; subst h
      obtain ⟨ys, h1, h2⟩ := results_ok x g1 g2 l r' hr
      refine ⟨_ :: ys, ?_, VL.cons (x.tm t v hv) h2⟩
      simp only [List.mapM_cons, g1, Sem.run_bind, Sem.run_pure, Result.andThen_ok, h1]
    · simp at h
  | .cell c t :: l, r, h => by
    simp only [resultsA] at h
    split at h
    · rename_i id off hp
      split at h
      · rename_i v r' hv hr
        simp at h; subst h
        obtain ⟨ys, h1, h2⟩ := results_ok x g1 g2 l r' hr
        obtain ⟨b, o, m, q1, hpv⟩ := x.tm _ _ hp
        obtain ⟨b', o', m', y, k1, k2, k3⟩ := loadV_ok x.mem hv
        rw [q1] at k1; simp at k1; obtain ⟨rfl, rfl, rfl⟩ := k1
        refine ⟨y :: ys, ?_, VL.cons k3 h2⟩
        have has : (asAddr (a.tmps.getD c undef)).run P w = .ok ⟨b, o + off, none⟩ w := by rw [hpv]; rfl
        simp only [List.mapM_cons, g2, Sem.run_bind, has, Sem.run_pure, Result.andThen_ok, k2, h1]
      · simp at h
    · simp at h

theorem one_ok {σ : Sg} {r : List AV} {ys : List Value} (h : VL σ r ys) : V σ (oneA r) (if h : (⟨ys⟩ : Array Value).size = 1 then (⟨ys⟩ : Array Value)[0] else .tuple ⟨ys⟩) := by
  match r, h with
  | [], h => obtain rfl := h; exact ⟨[], rfl, rfl⟩
  | [a], ⟨y, l, e, p, q⟩ =>
    obtain rfl := q; subst e
    exact p
  | a :: b :: l, ⟨y, l', e, p, y2, l2, e2, q, q2⟩ =>
    subst e; subst e2
    rw [dif_neg (by simp)]
    exact ⟨_, VL.cons p (VL.cons q q2), rfl⟩

theorem aCall_ok {P : Program} (hN : NoNum P) {draw : Callee → Draw} (hdraw : ∀ call, CalOK P call → DrawOK P (draw call)) : ∀ n, CalOK P (aCall P draw n)
  | 0 => fun f args h nx v h' nx' ha => by simp [aCall] at ha
  | n + 1 => fun f args h nx v h' nx' ha => by
    have hcal := aCall_ok hN hdraw n
    simp only [aCall] at ha
    cases hf : P.funcs[f]? with
    | none => simp [hf] at ha
    | some fn =>
      simp only [hf] at ha
      cases hb : fn.body with
      | none => simp [hb] at ha
      | some body =>
        simp only [hb] at ha
        cases hle : Nat.ble args.length fn.ntmps with
        | false => simp [hle] at ha
        | true =>
          simp only [hle, cond_true] at ha
          have hle' := Nat.le_of_ble_eq_true hle
          have key : ∀ (e : Ex) (st : St) (l : List AV), (e = .normal ∨ e = .ret) → aCode P (aCall P draw n) (draw (aCall P draw n)) body ⟨params args 0 .leaf, fn.ntmps, h, nx⟩ = some (e, st) → resultsA P st fn.results.toList = some l →
              nx ≤ st.nx ∧ ∀ (σ : Sg) (w : World) (ys : List Value), HR σ h w → VL σ args ys → Fresh σ nx st.nx → 1000 ≤ nx → (∀ g, g < 1000 → ∃ n, σ g = some (g, 0, n)) →
                Calls P f ⟨ys⟩ w fun e w' => ∃ y τ, e = .returned y ∧ V τ (oneA l) y ∧ HR τ st.h w' ∧ Stp σ h w τ st.h w' ∧ Ext σ τ nx st.nx := by
            intro e st l he hc hr
            obtain ⟨l1, k1⟩ := aCode_ok hN hcal (hdraw _ hcal) body _ _ _ hc
            refine ⟨l1, fun σ w ys x hv hfr hge hg => calls_of_wp hf hb ?_⟩
            have hlen := hv.length
            refine k1 σ _ w _ ⟨fun t u hu => ?_, fun t u hu => ?_, ?_, rfl, x, hg⟩ hfr hge fun τ a' w' x' hw => ?_
            · rcases params_get _ _ _ _ _ hu with ⟨_, h2, h3⟩ | ⟨_, h2⟩
              · obtain ⟨y, hy, hV⟩ := VL.get hv h3
                simp at h2
                simp only [Nat.sub_zero] at hy
                obtain ⟨h5, h6⟩ := List.getElem?_eq_some_iff.1 hy
                simp [Array.getElem?_append, ← hlen, h2, h6]
                exact hV
              · simp [Tr.get_leaf, Tr.get_zero, Tr.get_succ] at h2
            · rcases params_get _ _ _ _ _ hu with ⟨_, h2, h3⟩ | ⟨_, h2⟩
              · simp at h2 ⊢; omega
              · simp [Tr.get_leaf, Tr.get_zero, Tr.get_succ] at h2
            · simp; omega
            · have hres : ∃ ys', (results fn a'.tmps).run P w' = .ok (if h : (⟨ys'⟩ : Array Value).size = 1 then (⟨ys'⟩ : Array Value)[0] else .tuple ⟨ys'⟩) w' ∧ VL τ l ys' := by
                unfold results
                rw [Array.mapM_eq_mapM_toList]
                simp only [bind_map_left, Sem.run_bind]
                obtain ⟨ys', r1, r2⟩ := results_ok (P := P) x' (g := fun x => match x with | .tmp t => pure (a'.tmps.getD t undef) | .cell c t => do loadVar t (← asAddr (a'.tmps.getD c undef))) (fun _ => rfl) (fun _ _ => rfl) _ _ hr
                refine ⟨ys', ?_, r2⟩
                refine Eq.trans (congrArg (Result.andThen · _) (show _ = Result.ok ys' w' from ?_)) rfl
                exact r1
              obtain ⟨ys', hres, r2⟩ := hres
              rcases he with rfl | rfl
              · exact ⟨x'.defers, _, hres, _, τ, rfl, one_ok r2, x'.mem, hw.1, hw.2⟩
              · exact ⟨x'.defers, _, hres, _, τ, rfl, one_ok r2, x'.mem, hw.1, hw.2⟩
          refine ⟨⟨fn, rfl, by simp [hb]⟩, ?_⟩
          split at ha
          · rename_i st hc
            split at ha
            · rename_i l hl
              simp at ha; obtain ⟨rfl, rfl, rfl⟩ := ha
              exact key .normal st l (.inl rfl) hc hl
            · simp at ha
          · rename_i st hc
            split at ha
            · rename_i l hl
              simp at ha; obtain ⟨rfl, rfl, rfl⟩ := ha
              exact key .ret st l (.inr rfl) hc hl
            · simp at ha
          · simp at ha
end
end Go.Proofs.YtgihpgdjkanodaaGreatDoor.Ev

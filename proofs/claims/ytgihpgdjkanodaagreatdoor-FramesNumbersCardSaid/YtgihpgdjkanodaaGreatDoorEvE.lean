/-
  Helper text: operations of our own machine, the first part; no statement is proved here.
-/
import Derived.Test.YtgihpgdjkanodaaGreatDoorEvD
namespace Go.Proofs.YtgihpgdjkanodaaGreatDoor.Ev
noncomputable section
open Go Go.RowKit

def Out.nx (a : Nat) : Out → Nat
  | .val _ _ n => n
  | .skip _ n => n
  | .enter _ _ => a

def OutOK (P : Program) (σ : Sg) (h : Hp) (nx : Nat) (w : World) (r : Result Next) : Out → Prop
  | .val v h' nx' => ∃ y w' τ, r = .ok (.value y) w' ∧ V τ v y ∧ HR τ h' w' ∧ Stp σ h w τ h' w' ∧ Ext σ τ nx nx'
  | .skip h' nx' => ∃ w' τ, r = .ok .skip w' ∧ HR τ h' w' ∧ Stp σ h w τ h' w' ∧ Ext σ τ nx nx'
  | .enter f args => (∃ fn, P.funcs[f]? = some fn ∧ fn.body.isSome = true) → ∃ ys, r = .ok (.enter f ⟨ys⟩) w ∧ VL σ args ys

section
variable {P : Program} {σ : Sg} {h : Hp} {nx : Nat} {w : World}

/-- A value, and nothing else. -/
theorem out_same {v : AV} {y : Value} {r : Result Next} (x : HR σ h w) (hr : r = .ok (.value y) w) (hv : V σ v y) : OutOK P σ h nx w r (.val v h nx) :=
  ⟨y, w, σ, hr, hv, x, Stp.refl _ _ _, Ext.refl _ _ _⟩

theorem out_map {r : Result Value} {o : AV} {h' : Hp} {nx' : Nat} (k : ∃ y w' τ, r = .ok y w' ∧ V τ o y ∧ HR τ h' w' ∧ Stp σ h w τ h' w' ∧ Ext σ τ nx nx') :
    OutOK P σ h nx w (r.andThen fun a w' => .ok (.value a) w') (.val o h' nx') := by
  obtain ⟨y, w', τ, rfl, k⟩ := k
  exact ⟨y, w', τ, rfl, k⟩

theorem ground_ok {ρ : Rho} {e : Operand → Value} {o : Oper} {out : Out} (x : HR σ h w) (hρ : ∀ o v, ρ o = some v → V σ v (e o)) (hs : ∀ cs b, o.op ≠ .select cs b)
    (hg : ground P ρ o h nx = some out) : nx ≤ out.nx nx ∧ OutOK P σ h nx w ((execOp e o).run P w) out := by
  unfold ground at hg
  cases hb : o.op.operands.toList.all fun x => (toO (ρ x)).isSome with
  | false => simp only [hb, cond_false] at hg; simp at hg
  | true =>
    simp only [hb, cond_true] at hg
    split at hg
    · rename_i v hv
      cases ha : ofV v with
      | none => simp [ha] at hg
      | some a =>
        simp [ha] at hg; subst hg
        have hc : execOp e o = execOp (fun x => (toO (ρ x)).getD undef) o := execOp_congr o hs fun z hz => by
          have := (List.all_eq_true.1 hb) z (by simpa using hz)
          unfold toO at this ⊢
          cases hr : ρ z with
          | none => simp [hr] at this
          | some u =>
            simp only [hr] at this ⊢
            cases hu : toV u with
            | none => simp [hu] at this
            | some u' => simp; exact toV_ok hu (hρ _ _ hr)
        exact ⟨Nat.le_refl _, out_same x (by rw [hc]; exact pureOf_ok w hv) (ofV_ok ha)⟩
    · simp at hg

theorem valsOf_ok {ρ : Rho} {e : Operand → Value} (hρ : ∀ o v, ρ o = some v → V σ v (e o)) : ∀ {l : List Operand} {vs : List AV}, valsOf ρ l = some vs → VL σ vs (l.map e)
  | [], vs, hv => by simp [valsOf] at hv; subst hv; rfl
  | z :: l, vs, hv => by
    simp only [valsOf] at hv
    split at hv
    · rename_i a r ha hr
      simp at hv; subst hv
      exact VL.cons (hρ _ _ ha) (valsOf_ok hρ hr)
    · simp at hv

theorem intOf_ok {a : AV} {n : Int} {v : Value} (hn : intOfAV a = some n) (hv : V σ a v) : ∃ k, v = .int k n := by
  unfold intOfAV at hn
  split at hn
  · simp at hn; subst hn; exact ⟨_, hv⟩
  · simp at hn

theorem run_asIntOf (k : IntKind) (n : Int) : (asIntOf (.int k n)).run P w = .ok (k, n) w := rfl

theorem partC_ok {t : TypeId} {cs : List AV} {vs : List Value} {off : Nat} {a : AV} (hp : partC P t cs off = some a) (hv : VL σ cs vs) : ∃ v, (part t ⟨vs⟩ off).run P w = .ok v w ∧ V σ a v := by
  unfold partC at hp
  split at hp
  · rename_i n hag hn
    cases hb : Nat.beq ((cs.drop off).take n).length n with
    | false => simp only [hb, cond_false] at hp; simp at hp
    | true =>
      simp only [hb, cond_true] at hp
      obtain rfl := Option.some.inj hp
      refine ⟨.agg ((⟨vs⟩ : Array Value).extract off (off + n)), by simp [part, run_isAgg hag, run_sizeOf hn], (vs.drop off).take n, VL.take n (VL.drop off hv), ?_⟩
      congr 1
      apply Array.ext'
      simp [List.extract_eq_take_drop]
  · rename_i hag
    obtain ⟨v, h1, h2⟩ := VL.get hv hp
    exact ⟨v, by simp [part, run_isAgg hag, h1], h2⟩
  · simp at hp

/-- A new variable. -/
theorem alloc_at (w : World) (o : Obj) : (w.alloc o).heap[w.heap.size]? = some o := by
  show (w.heap.push o)[w.heap.size]? = _
  simp
theorem newR_ok (x : HR σ h w) (hf : σ nx = none) (ty : TypeId) {cs : List AV} {vs : List Value} (hv : VL σ cs vs) :
    ∃ τ, τ nx = some (w.heap.size, 0, vs.length) ∧ HR τ (newR h nx ty cs false 0) (w.alloc (.cells ⟨vs⟩ ty)) ∧ Stp σ h w τ (newR h nx ty cs false 0) (w.alloc (.cells ⟨vs⟩ ty)) ∧ Ext σ τ nx (nx + 1) := by
  have hlen := hv.length
  obtain ⟨a, b⟩ := x.new hf (blk := .row cs ty false 0) (obj := .cells ⟨vs⟩ ty) 0 vs.length (by
    refine ⟨w.heap.size, 0, vs.length, ⟨vs⟩, (0, 0), ty, upd_same _ _ _, alloc_at _ _, rfl, by omega, fun _ => by omega, ?_, fun _ => ?_, fun _ => ⟨rfl, rfl⟩⟩
    · simp [hlen]; exact VL.mono (upd_le hf) _ _ hv
    · intro i _ hi; simp at hi)
  exact ⟨_, upd_same _ _ _, a, b, upd_ext _ _ _⟩
end

/-- The equality of two values. -/
theorem eqAV_ok {P : Program} {σ : Sg} {w : World} {t : TypeId} {x y : AV} {u v : Value} {b : Bool} (hb : eqAV P t x y = some b) (hu : V σ x u) (hv : V σ y v) : (Op.equal t u v).run P w = .ok b w := by
  unfold eqAV at hb
  unfold Op.equal Op.maxDepth
  obtain ⟨d, hd⟩ : ∃ d, 10000 = d + 1 := ⟨9999, rfl⟩
  rw [hd]
  clear hd
  split at hb
  · rename_i ht; simp at hb; subst hb; simp only [V] at hu hv; subst hu hv; simp [Op.equalIn, run_under ht]
  · rename_i ht; simp at hb; subst hb; simp only [V] at hu hv; obtain ⟨_, _, _, _, rfl⟩ := hv; subst hu; simp [Op.equalIn, run_under ht]
  · rename_i ht; simp at hb; subst hb; simp only [V] at hu hv; obtain ⟨_, _, _, _, rfl⟩ := hu; subst hv; simp [Op.equalIn, run_under ht]
  · rename_i e i o j p ht
    split at hb
    · simp at hb
    · simp at hb
    · rename_i n hn hne
      cases hij : Nat.beq i j with
      | false => simp [hij] at hb
      | true =>
        simp only [hij, cond_true] at hb
        obtain rfl := Option.some.inj hb
        obtain rfl := Nat.eq_of_beq_eq_true hij
        obtain ⟨b, q, m, h1, rfl⟩ := hu
        obtain ⟨b', q', m', h1', rfl⟩ := hv
        rw [h1] at h1'; simp at h1'; obtain ⟨rfl, rfl, rfl⟩ := h1'
        have hn0 : n ≠ 0 := hn
        simp only [Op.equalIn, Sem.run_bind, run_under ht, Result.andThen_ok, run_sizeOf hne]
        simp [hn0, sameAddr]
        rw [Bool.eq_iff_iff]
        simp
  all_goals first
    | (rename_i ht; simp at hb; subst hb; simp only [V] at hu hv; obtain ⟨_, _, _, _, rfl⟩ := hv; subst hu; simp [Op.equalIn, run_under ht]; done)
    | (rename_i ht; simp at hb; subst hb; simp only [V] at hu hv; obtain ⟨_, _, _, _, rfl⟩ := hu; subst hv; simp [Op.equalIn, run_under ht]; done)
    | (rename_i ht; simp at hb; subst hb; simp only [V] at hu hv; obtain ⟨_, _, rfl⟩ := hv; subst hu; simp [Op.equalIn, run_under ht]; done)
    | (rename_i ht; simp at hb; subst hb; simp only [V] at hu hv; obtain ⟨_, _, rfl⟩ := hu; subst hv; simp [Op.equalIn, run_under ht]; done)
    | (rename_i ht; simp at hb; subst hb; simp only [V] at hu hv; obtain ⟨_, _, _, _, _, rfl, _⟩ := hv; subst hu; simp [Op.equalIn, run_under ht]; done)
    | (rename_i ht; simp at hb; subst hb; simp only [V] at hu hv; obtain ⟨_, _, _, _, _, rfl, _⟩ := hu; subst hv; simp [Op.equalIn, run_under ht]; done)
    | (simp at hb; done)
    | skip

theorem eqSc_ok {P : Program} {σ : Sg} {w : World} {t : TypeId} {d : TypeDesc} {x y : AV} {u v : Value} {b : Bool} (hb : eqSc x y d = some b) (hu : V σ x u) (hv : V σ y v) (ht : P.underlying t = some d) (n : Nat) : (Op.equalIn (n + 1) t u v).run P w = .ok b w := by
  unfold eqSc at hb
  split at hb
  · rename_i k a l c kk
    simp only [V] at hu hv; subst hu; subst hv
    cases hk : decide (k = l) with
    | false => simp only [hk, cond_false] at hb; simp at hb
    | true =>
      simp only [hk, cond_true] at hb
      simp at hb; subst hb
      have := of_decide_eq_true hk
      subst this
      simp [Op.equalIn, run_under ht]
  · simp only [V] at hu hv; subst hu; subst hv
    simp at hb; subst hb
    simp [Op.equalIn, run_under ht]
  · simp at hb

theorem forIn_fields {P : Program} {w : World} {g : Field → Option Bool × Unit → Sem (ForInStep (Option Bool × Unit))} {e : Field → Bool} : ∀ (l : List Field),
    (∀ f ∈ l, (g f (none, ())).run P w = if e f then .ok (.yield (none, ())) w else .ok (.done (some false, ())) w) →
    (forIn l (none, ()) g).run P w = if l.all e then .ok (none, ()) w else .ok (some false, ()) w
  | [], _ => by simp
  | f :: l, hg => by
    have hf := hg f (by simp)
    have ih := forIn_fields l fun f hf => hg f (by simp [hf])
    rw [List.forIn_cons, Sem.run_bind, hf]
    cases he : e f with
    | true => simp [he, ih]
    | false => simp [he]

theorem eqFs_ok {P : Program} {σ : Sg} {w : World} (n : Nat) {xs ys : List AV} {us vs : List Value} (hx : VL σ xs us) (hy : VL σ ys vs) : ∀ {l : List Field} {b : Bool}, eqFs P l xs ys = some b →
    ∃ e : Field → Bool, l.all e = b ∧ ∀ f ∈ l, f.name ≠ "_" ∧ ∃ u v, (part f.type ⟨us⟩ f.offset).run P w = .ok u w ∧ (part f.type ⟨vs⟩ f.offset).run P w = .ok v w ∧ (Op.equalIn (n + 1) f.type u v).run P w = .ok (e f) w
  | [], b, hb => by simp [eqFs] at hb; subst hb; exact ⟨fun _ => true, rfl, fun f hf => by simp at hf⟩
  | f :: l, b, hb => by
    simp only [eqFs] at hb
    cases hn : f.name == "_" with
    | true => simp [hn] at hb
    | false =>
      simp only [hn, cond_false] at hb
      split at hb
      · rename_i d a c h1 h2 h3 h4
        split at hb
        · rename_i e r h5 h6
          simp at hb; subst hb
          obtain ⟨u, hu, hU⟩ := VL.get hx h3
          obtain ⟨v, hv, hV⟩ := VL.get hy h4
          obtain ⟨e', he', hall⟩ := eqFs_ok (w := w) n hx hy h6
          have hf : f.name ≠ "_" ∧ ∃ u v, (part f.type ⟨us⟩ f.offset).run P w = .ok u w ∧ (part f.type ⟨vs⟩ f.offset).run P w = .ok v w ∧ (Op.equalIn (n + 1) f.type u v).run P w = .ok e w :=
            ⟨by simpa using hn, u, v, by simp [part, run_isAgg h1, hu], by simp [part, run_isAgg h1, hv], eqSc_ok h5 hU hV h2 n⟩
          -- the answers of the others stay; of this one it is e, whoever asks
          refine ⟨fun g => if (g.type = f.type ∧ g.offset = f.offset) then e else e' g, ?_, fun g hg => ?_⟩
          · rw [List.all_cons, if_pos ⟨rfl, rfl⟩, ← he']
            congr 1
            rw [Bool.eq_iff_iff, List.all_eq_true, List.all_eq_true]
            have same : ∀ g ∈ l, (if (g.type = f.type ∧ g.offset = f.offset) then e else e' g) = e' g := fun g hg => by
              split
              · rename_i hh
                obtain ⟨_, u', v', q1, q2, q3⟩ := hall g hg
                obtain ⟨_, u2, v2, p1, p2, p3⟩ := hf
                rw [hh.1, hh.2] at q1 q2
                rw [hh.1] at q3
                rw [p1] at q1; rw [p2] at q2
                simp at q1 q2
                rw [← q1, ← q2, p3] at q3
                simpa using q3
              · rfl
            constructor
            · intro h g hg; rw [← same g hg]; exact h g hg
            · intro h g hg; rw [same g hg]; exact h g hg
          · rcases List.mem_cons.1 hg with rfl | hg
            · (try dsimp only); rw [if_pos ⟨rfl, rfl⟩]; exact hf
            · obtain ⟨k1, u', v', q1, q2, q3⟩ := hall g hg
              refine ⟨k1, u', v', q1, q2, ?_⟩
              dsimp only
              by_cases hh : g.type = f.type ∧ g.offset = f.offset
              · rw [if_pos hh]
                obtain ⟨_, u2, v2, p1, p2, p3⟩ := hf
                rw [hh.1, hh.2, p1] at q1; rw [hh.1, hh.2, p2] at q2
                simp at q1 q2
                rw [← q1, ← q2, hh.1]; exact p3
              · rw [if_neg hh]; exact q3
        · simp at hb
      · simp at hb

theorem eqAgg_ok {P : Program} {σ : Sg} {w : World} {t : TypeId} {xs ys : List AV} {us vs : List Value} {b : Bool} (hb : eqAgg P t xs ys = some b) (hx : VL σ xs us) (hy : VL σ ys vs) :
    (Op.equal t (.agg ⟨us⟩) (.agg ⟨vs⟩)).run P w = .ok b w ∧ P.eqGuardType P.depth t = false := by
  unfold eqAgg at hb
  split at hb
  · rename_i fs ht
    cases hc : (P.stoodInHeld t || P.eqGuardType P.depth t) with
    | true => simp [hc] at hb
    | false =>
      simp only [hc, cond_false] at hb
      simp only [Bool.or_eq_false_iff] at hc
      refine ⟨?_, hc.2⟩
      unfold Op.equal Op.maxDepth
      obtain ⟨d, hd⟩ : ∃ d, 10000 = d + 1 + 1 := ⟨9998, rfl⟩
      rw [hd]
      clear hd
      obtain ⟨e, he, hall⟩ := eqFs_ok (w := w) d hx hy hb
      rw [Op.equalIn]
      simp only [Sem.run_bind, run_under ht, Result.andThen_ok, run_program, hc.1]
      simp
      rw [← Array.forIn_toList, forIn_fields (e := e) fs.toList fun f hf => ?_]
      · cases b <;> simp [he]
      · obtain ⟨h1, u, v, q1, q2, q3⟩ := hall f hf
        simp [h1, q1, q2, q3]
        cases e f <;> simp
  · simp at hb
end
end Go.Proofs.YtgihpgdjkanodaaGreatDoor.Ev

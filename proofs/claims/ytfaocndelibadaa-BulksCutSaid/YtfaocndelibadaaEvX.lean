/-
  Helper text: one frame over given callees; a callee that is known by its answer alone; the way of a law; no statement is proved here.
-/
import Derived.Test.YtfaocndelibadaaEvW
namespace Go.Proofs.Ytfaocndelibadaa.Ev
noncomputable section
open Go Go.RowKit

def aFrame (P : Program) (call : Callee) (draw : Draw) : Callee := fun f args h nx => match P.funcs[f]? with
  | none => none
  | some fn => match fn.body with
    | none => none
    | some body => bif Nat.ble args.length fn.ntmps then
      match aCode P call draw body ⟨params args 0 .leaf, fn.ntmps, h, nx⟩ with
      | some (.normal, st) => match resultsA P st fn.results.toList with
        | some l => some (oneA l, st.h, st.nx)
        | none => none
      | some (.ret, st) => match resultsA P st fn.results.toList with
        | some l => some (oneA l, st.h, st.nx)
        | none => none
      | _ => none
      else none

theorem aFrame_ok {P : Program} (hN : NoNum P) {call : Callee} (hcal : CalOK P call) {draw : Draw} (hdraw : DrawOK P draw) : CalOK P (aFrame P call draw) :=
  fun f args h nx v h' nx' ha => by
    unfold aFrame at ha
    cases hf : P.funcs[f]? with
    | none => simp [hf] at ha
    | some fn =>
      simp only [hf] at ha
      cases hb : fn.body with
      | none => simp [hb] at ha
      | some body =>
        simp only [hb] at ha
        cases hle : Nat.ble args.length fn.ntmps with
        | false => simp [hle] at ha
        | true =>
          simp only [hle, cond_true] at ha
          have hle' := Nat.le_of_ble_eq_true hle
          have key : ∀ (e : Ex) (st : St) (l : List AV), (e = .normal ∨ e = .ret) → aCode P call draw body ⟨params args 0 .leaf, fn.ntmps, h, nx⟩ = some (e, st) → resultsA P st fn.results.toList = some l →
              nx ≤ st.nx ∧ ∀ (σ : Sg) (w : World) (ys : List Value), HR σ h w → VL σ args ys → Fresh σ nx st.nx → 1000 ≤ nx → (∀ g, g < 1000 → ∃ n, σ g = some (g, 0, n)) →
                Calls P f ⟨ys⟩ w fun e w' => ∃ y τ, e = .returned y ∧ V τ (oneA l) y ∧ HR τ st.h w' ∧ Stp σ h w τ st.h w' ∧ Ext σ τ nx st.nx := by
            intro e st l he hc hr
            obtain ⟨l1, k1⟩ := aCode_ok hN hcal hdraw body _ _ _ hc
            refine ⟨l1, fun σ w ys x hv hfr hge hg => calls_of_wp hf hb ?_⟩
            have hlen := hv.length
            refine k1 σ _ w _ ⟨fun t u hu => ?_, fun t u hu => ?_, ?_, rfl, x, hg⟩ hfr hge fun τ a' w' x' hw => ?_
            · rcases params_get _ _ _ _ _ hu with ⟨_, h2, h3⟩ | ⟨_, h2⟩
              · obtain ⟨y, hy, hV⟩ := VL.get hv h3
                simp at h2
                simp only [Nat.sub_zero] at hy
                obtain ⟨h5, h6⟩ := List.getElem?_eq_some_iff.1 hy
                simp [Array.getElem?_append, ← hlen, h2, h6]
                exact hV
              · simp [Tr.get_leaf, Tr.get_zero, Tr.get_succ] at h2
            · rcases params_get _ _ _ _ _ hu with ⟨_, h2, h3⟩ | ⟨_, h2⟩
              · simp at h2 ⊢; omega
              · simp [Tr.get_leaf, Tr.get_zero, Tr.get_succ] at h2
            · simp; omega
            · have hres : ∃ ys', (results fn a'.tmps).run P w' = .ok (if h : (⟨ys'⟩ : Array Value).size = 1 then (⟨ys'⟩ : Array Value)[0] else .tuple ⟨ys'⟩) w' ∧ VL τ l ys' := by
                unfold results
                rw [Array.mapM_eq_mapM_toList]
                simp only [bind_map_left, Sem.run_bind]
                obtain ⟨ys', r1, r2⟩ := results_ok (P := P) x' (g := fun x => match x with | .tmp t => pure (a'.tmps.getD t undef) | .cell c t => do loadVar t (← asAddr (a'.tmps.getD c undef))) (fun _ => rfl) (fun _ _ => rfl) _ _ hr
                refine ⟨ys', ?_, r2⟩
                refine Eq.trans (congrArg (Result.andThen · _) (show _ = Result.ok ys' w' from ?_)) rfl
                exact r1
              obtain ⟨ys', hres, r2⟩ := hres
              rcases he with rfl | rfl
              · exact ⟨x'.defers, _, hres, _, τ, rfl, one_ok r2, x'.mem, hw.1, hw.2⟩
              · exact ⟨x'.defers, _, hres, _, τ, rfl, one_ok r2, x'.mem, hw.1, hw.2⟩
          refine ⟨⟨fn, rfl, by simp [hb]⟩, ?_⟩
          split at ha
          · rename_i st hc
            split at ha
            · rename_i l hl
              simp at ha; obtain ⟨rfl, rfl, rfl⟩ := ha
              exact key .normal st l (.inl rfl) hc hl
            · simp at ha
          · rename_i st hc
            split at ha
            · rename_i l hl
              simp at ha; obtain ⟨rfl, rfl, rfl⟩ := ha
              exact key .ret st l (.inr rfl) hc hl
            · simp at ha
          · simp at ha

def aFrameD (P : Program) (callD : CalleeD) (dec : Dec) (f : FuncId) (args : List AV) (h : Hp) (nx : Nat) : Option (AV × Hp × Nat × Obs) := match P.funcs[f]? with
  | none => none
  | some fn => match fn.body with
    | none => none
    | some body => bif Nat.ble args.length fn.ntmps then
      match aCodeD P callD dec body ⟨params args 0 .leaf, fn.ntmps, h, nx⟩ with
      | some (.normal, st, ob) => match resultsA P st fn.results.toList with
        | some l => some (oneA l, st.h, st.nx, ob)
        | none => none
      | some (.ret, st, ob) => match resultsA P st fn.results.toList with
        | some l => some (oneA l, st.h, st.nx, ob)
        | none => none
      | _ => none
      else none

theorem aFrameD_ok {P : Program} {callD : CalleeD} {call : Callee} (hcd : Refines callD call) {dec : Dec} {f : FuncId} {args : List AV} {h h' : Hp} {nx nx' : Nat} {v : AV} {ob : Obs} (hs : aFrameD P callD dec f args h nx = some (v, h', nx', ob)) (hh : Holds ob) :
    aFrame P call (drawR P call) f args h nx = some (v, h', nx') := by
  unfold aFrameD at hs
  unfold aFrame
  split at hs
  · simp at hs
  · rename_i fn hf
    split at hs
    · simp at hs
    · rename_i body hb
      (try simp only [hb])
      cases hle : Nat.ble args.length fn.ntmps with
      | false => simp [hle] at hs
      | true =>
        simp only [hle, cond_true] at hs ⊢
        split at hs
        · rename_i st ob' hc
          split at hs
          · rename_i l hl
            simp at hs; obtain ⟨rfl, rfl, rfl, rfl⟩ := hs
            simp only [aCodeD_ok hcd hc hh, hl]
          · simp at hs
        · rename_i st ob' hc
          split at hs
          · rename_i l hl
            simp at hs; obtain ⟨rfl, rfl, rfl, rfl⟩ := hs
            simp only [aCodeD_ok hcd hc hh, hl]
          · simp at hs
        · simp at hs

/-- Memory of ours has the tables. -/
def hasT (h : Hp) (t : Nat × List AV) : Bool := Nat.blt t.1 1000 && !t.2.isEmpty && t.2.all (fun a => (toS a).isSome) && match h.get t.1 with
  | some (.row ds _ _ _) => AV.beqL ds t.2
  | _ => false

theorem hasT_held {σ : Sg} {h : Hp} {w : World} (x : HR σ h w) (hg : ∀ g, g < 1000 → ∃ n, σ g = some (g, 0, n)) {l : List (Nat × List AV)} (hl : l.all (hasT h) = true) : Held w l := fun g cs hm => by
  have := (List.all_eq_true.1 hl) _ hm
  unfold hasT at this
  simp only [Bool.and_eq_true] at this
  obtain ⟨⟨⟨h1, h2⟩, h3⟩, h4⟩ := this
  have h1' : g < 1000 := by simpa [Nat.blt_eq] using h1
  refine ⟨h1', by simpa using h2, fun j a ha => ?_⟩
  split at h4
  · rename_i ds ty opn md hget
    have := AV.beqL_eq _ _ h4
    subst this
    obtain ⟨b, o, n, cells, fz, tv, e1, e2, e3, e4, e5, e6, _⟩ := x.has _ _ hget
    obtain ⟨n', hn⟩ := hg g h1'
    rw [hn] at e1; simp at e1; obtain ⟨rfl, rfl, rfl⟩ := e1
    obtain ⟨v, hv, hV⟩ := VL.get e6 ha
    have hs := (List.all_eq_true.1 h3) a (List.mem_of_getElem? ha)
    cases hu : toS a with
    | none => simp [hu] at hs
    | some u =>
      refine ⟨u, rfl, ?_⟩
      rw [cell_row e2]
      rw [List.getElem?_take, List.drop_zero] at hv
      split at hv
      · rw [hv, toS_ok hu hV]
      · simp at hv
  · simp at h4

/-- A function without arguments that says true, and the others. -/
def short (g : FuncId) (l : List (Nat × List AV)) (call : Callee) : Callee := fun f args h nx =>
  bif Nat.beq f g then (match args with
    | [] => bif l.all (hasT h) then some (.bool true, h, nx) else none
    | _ => none)
  else call f args h nx

theorem short_ok {P : Program} (hN : NoNum P) (hm : P.follows .mixedOrders = true) {g : FuncId} {l : List (Nat × List AV)} {n : Nat} (hs : saysTrue (aCall P (drawR P) n g [] (tables l) 1000) = true) {call : Callee} (hcal : CalOK P call) : CalOK P (short g l call) := by
  intro f args h nx v h' nx' ha
  unfold short at ha
  cases hf : Nat.beq f g with
  | false => simp only [hf, cond_false] at ha; exact hcal _ _ _ _ _ _ _ ha
  | true =>
    simp only [hf, cond_true] at ha
    obtain rfl := Nat.eq_of_beq_eq_true hf
    split at ha
    · cases hall : l.all (hasT h) with
      | false => simp [hall] at ha
      | true =>
        simp only [hall, cond_true] at ha
        simp at ha
        obtain ⟨rfl, rfl, rfl⟩ := ha
        have hex : ∃ fn, P.funcs[f]? = some fn ∧ fn.body.isSome = true := by
          have hs' := hs
          unfold saysTrue at hs'
          split at hs'
          · rename_i hp nx' hc; exact (machine_ok hN hm n _ _ _ _ _ _ _ hc).1
          · simp at hs'
        refine ⟨hex, Nat.le_refl _, fun σ w ys x hv hfr hge hg => ?_⟩
        obtain rfl := hv
        refine (says_ok hN hm hs (hasT_held x hg hall)).mono ?_
        rintro e w' ⟨rfl, hb⟩
        refine ⟨_, σ, rfl, rfl, ⟨fun id blk hi => (x.has id blk hi).mono (Le.refl _) fun p hp => ?_, x.inj⟩, ⟨hb.os, hb.tape, hb.output, hb.size, fun k hk _ => hb.block k hk, fun _ _ z => z, fun _ _ z => z⟩, Ext.refl _ _ _⟩
        obtain ⟨q, hq, hlt⟩ := (x.has id blk hi).lt
        rw [hp] at hq; obtain rfl := Option.some.inj hq
        exact hb.block _ hlt
    · simp at ha

/-- The callees of a law: what their tests say may be given ahead, too. -/
def aCallD (P : Program) (decs : FuncId → Dec) : Nat → CalleeD
  | 0 => fun _ _ _ _ => none
  | n + 1 => fun f args h nx => aFrameD P (aCallD P decs n) (decs f) f args h nx

theorem aCallD_ok {P : Program} {decs : FuncId → Dec} : ∀ n, Refines (aCallD P decs n) (aCall P (drawR P) n)
  | 0 => fun f args h nx v h' nx' ob hs _ => by simp [aCallD] at hs
  | n + 1 => fun f args h nx v h' nx' ob hs hh => by
    have := aFrameD_ok (aCallD_ok n) hs hh
    exact this

def shortD (g : FuncId) (l : List (Nat × List AV)) (callD : CalleeD) : CalleeD := fun f args h nx =>
  bif Nat.beq f g then (match args with
    | [] => bif l.all (hasT h) then some (.bool true, h, nx, []) else none
    | _ => none)
  else callD f args h nx
theorem shortD_ok {g : FuncId} {l : List (Nat × List AV)} {callD : CalleeD} {call : Callee} (hr : Refines callD call) : Refines (shortD g l callD) (short g l call) := fun f args h nx v h' nx' ob hs hh => by
  unfold shortD at hs
  unfold short
  cases hf : Nat.beq f g with
  | false => simp only [hf, cond_false] at hs ⊢; exact hr _ _ _ _ _ _ _ _ hs hh
  | true =>
    simp only [hf, cond_true] at hs ⊢
    split at hs
    · cases hall : l.all (hasT h) with
      | false => simp only [hall, cond_false] at hs; simp at hs
      | true => simp only [hall, cond_true] at hs ⊢; simp at hs; obtain ⟨rfl, rfl, rfl, _⟩ := hs; rfl
    · simp at hs

/-- What a way through a law owes. -/
def Says : Option (AV × Hp × Nat × Obs) → Prop
  | some (.bool true, _, _, ob) => Holds ob
  | _ => False

/-- Nothing of it is ours to write. -/
def onlyRead (h : Hp) : Prop := ∀ id blk, h.get id = some blk → wr blk = false

theorem law_ok {P : Program} (hN : NoNum P) (hm : P.follows .mixedOrders = true) {call : Callee} (hcal : CalOK P call) {callD : CalleeD} (hcd : Refines callD call) {dec : Dec} {f : FuncId} {args : List AV} {h : Hp} {nx : Nat} (hs : Says (aFrameD P callD dec f args h nx))
    {σ : Sg} {w : World} {ys : List Value} (x : HR σ h w) (hv : VL σ args ys) (hfr : ∀ id, nx ≤ id → σ id = none) (hge : 1000 ≤ nx) (hg : ∀ g, g < 1000 → ∃ n, σ g = some (g, 0, n)) (hr : onlyRead h) :
    Calls P f ⟨ys⟩ w fun e w' => e = .returned (.bool true) ∧ Below w.heap.size w w' := by
  unfold Says at hs
  split at hs
  · rename_i h' nx' ob hc
    obtain ⟨_, hle, hk⟩ := aFrame_ok hN hcal (drawR_ok hN hm hcal) _ _ _ _ _ _ _ (aFrameD_ok hcd hc hs)
    refine (hk σ w ys x hv (fun id h1 _ => hfr id h1) hge hg).mono ?_
    rintro e w' ⟨y, τ, rfl, hy, _, hst, _⟩
    simp only [V] at hy; subst hy
    refine ⟨rfl, hst.os, hst.tape, hst.output, hst.size, fun b hb => hst.keep b hb ?_⟩
    rintro ⟨id, blk, p, hi, hw, _⟩
    rw [hr id blk hi] at hw; simp at hw
  · exact hs.elim
end
end Go.Proofs.Ytfaocndelibadaa.Ev

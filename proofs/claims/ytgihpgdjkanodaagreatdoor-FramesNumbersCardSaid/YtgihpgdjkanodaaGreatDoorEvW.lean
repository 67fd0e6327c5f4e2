/-
  Helper text: our own machine over data that are known in part: what a test says is given ahead, and owed; no statement is proved here.
-/
import Derived.Test.YtgihpgdjkanodaaGreatDoorEvU
namespace Go.Proofs.YtgihpgdjkanodaaGreatDoor.Ev
noncomputable section
open Go Go.RowKit

abbrev Obs := List (Bool × Bool)
def Holds : Obs → Prop
  | [] => True
  | (a, b) :: l => a = b ∧ Holds l
theorem Holds.app : ∀ {l m : Obs}, Holds (l ++ m) → Holds l ∧ Holds m
  | [], _, h => ⟨trivial, h⟩
  | (_, _) :: _, _, h => let ⟨p, q⟩ := Holds.app h.2; ⟨⟨h.1, p⟩, q⟩

abbrev Dec := List (Nat × Bool)
def findD : Dec → Nat → Option Bool
  | [], _ => none
  | (u, b) :: l, t => bif Nat.beq u t then some b else findD l t
def decOf (dec : Dec) (d : Option Tmp) : Option Bool := match d with
  | none => none
  | some t => findD dec t

/-- A truth value that is given ahead. -/
def settle (dec : Dec) (d : Option Tmp) (v : AV) : AV × Obs := match v with
  | .bool e => match decOf dec d with
    | some b => (.bool b, [(e, b)])
    | none => (.bool e, [])
  | v => (v, [])
theorem settle_ok {dec : Dec} {d : Option Tmp} {v : AV} (h : Holds (settle dec d v).2) : (settle dec d v).1 = v := by
  unfold settle at h ⊢
  split
  · rename_i e
    cases hd : decOf dec d with
    | none => rfl
    | some b => simp only [hd] at h; rw [h.1]
  · rfl

abbrev CalleeD := FuncId → List AV → Hp → Nat → Option (AV × Hp × Nat × Obs)
/-- What the one says, and owes, the other says. -/
def Refines (callD : CalleeD) (call : Callee) : Prop := ∀ f args h nx v h' nx' ob, callD f args h nx = some (v, h', nx', ob) → Holds ob → call f args h nx = some (v, h', nx')

def aStepD (P : Program) (callD : CalleeD) (dec : Dec) (ρ : Rho) (o : Oper) (h : Hp) (nx : Nat) : Option (AV × Hp × Nat × Obs) :=
  match aop P ρ o h nx with
  | some (.val v h nx) => some ((settle dec o.dst v).1, h, nx, (settle dec o.dst v).2)
  | some (.skip h nx) => some (.tup [], h, nx, [])
  | some (.enter f args) => match callD f args h nx with
    | some (v, h, nx, ob) => some ((settle dec o.dst v).1, h, nx, ob ++ (settle dec o.dst v).2)
    | none => none
  | none => none
theorem aStepD_ok {P : Program} {callD : CalleeD} {call : Callee} (hc : Refines callD call) {dec : Dec} {ρ : Rho} {o : Oper} {h h' : Hp} {nx nx' : Nat} {v : AV} {ob : Obs} (hs : aStepD P callD dec ρ o h nx = some (v, h', nx', ob)) (hh : Holds ob) : aStep P call ρ o h nx = some (v, h', nx') := by
  unfold aStepD at hs
  unfold aStep
  split at hs
  · rename_i v0 h0 n0 ha
    simp at hs
    obtain ⟨rfl, rfl, rfl, rfl⟩ := hs
    rw [ha, settle_ok hh]
  · rename_i h0 n0 ha
    simp at hs
    obtain ⟨rfl, rfl, rfl, rfl⟩ := hs
    rw [ha]
  · rename_i f args ha
    split at hs
    · rename_i v0 h0 n0 ob0 hd
      simp at hs
      obtain ⟨rfl, rfl, rfl, rfl⟩ := hs
      obtain ⟨p, q⟩ := hh.app
      rw [ha, settle_ok q]
      exact hc _ _ _ _ _ _ _ _ hd p
    · simp at hs
  · simp at hs

def aOperD (P : Program) (callD : CalleeD) (dec : Dec) (ops : Array Oper) (o : Oper) (st : St) : Option (St × Obs) :=
  match wantedR ops o st.tm.get with
  | some true => match aStepD P callD dec st.rho o st.h st.nx with
    | some (v, h, nx, ob) => match (st.mem h nx).put o.dst v with
      | some st => some (st, ob)
      | none => none
    | none => none
  | some false => match st.put o.dst (.tup []) with
    | some st => some (st, [])
    | none => none
  | none => none
theorem aOperD_ok {P : Program} {callD : CalleeD} {call : Callee} (hc : Refines callD call) {dec : Dec} {ops : Array Oper} {o : Oper} {st st' : St} {ob : Obs} (hs : aOperD P callD dec ops o st = some (st', ob)) (hh : Holds ob) : aOper P call ops o st = some st' := by
  unfold aOperD at hs
  unfold aOper
  cases hw : wantedR ops o st.tm.get with
  | none => simp [hw] at hs
  | some b =>
    cases b with
    | true =>
      simp only [hw] at hs ⊢
      split at hs
      · rename_i v h nx ob' ha
        split at hs
        · rename_i st'' hp
          simp at hs; obtain ⟨rfl, rfl⟩ := hs
          simp only [aStepD_ok hc ha hh]; exact hp
        · simp at hs
      · simp at hs
    | false =>
      simp only [hw] at hs ⊢
      split at hs
      · rename_i st'' hp
        simp at hs; obtain ⟨rfl, rfl⟩ := hs
        exact hp
      · simp at hs

def aOpsD (P : Program) (callD : CalleeD) (dec : Dec) (ops : Array Oper) : List Oper → St → Option (St × Obs)
  | [], st => some (st, [])
  | o :: l, st => match aOperD P callD dec ops o st with
    | some (st, ob) => match aOpsD P callD dec ops l st with
      | some (st, ob') => some (st, ob ++ ob')
      | none => none
    | none => none
theorem aOpsD_ok {P : Program} {callD : CalleeD} {call : Callee} (hc : Refines callD call) {dec : Dec} {ops : Array Oper} : ∀ {l : List Oper} {st st' : St} {ob : Obs}, aOpsD P callD dec ops l st = some (st', ob) → Holds ob → aOps P call ops l st = some st'
  | [], st, st', ob, hs, _ => by simp only [aOpsD] at hs; simp at hs; obtain ⟨rfl, _⟩ := hs; rfl
  | o :: l, st, st', ob, hs, hh => by
    simp only [aOpsD] at hs
    split at hs
    · rename_i s1 o1 h1
      split at hs
      · rename_i s2 o2 h2
        simp at hs; obtain ⟨rfl, rfl⟩ := hs
        obtain ⟨a, b⟩ := hh.app
        simp only [aOps, aOperD_ok hc h1 a]; exact aOpsD_ok hc h2 b
      · simp at hs
    · simp at hs

def readObs (P : Program) (ρ : Rho) (o : Oper) (mask : Nat) (dr : Dr) (v : AV) (lo : Nat) : List Nat → Option Obs
  | [] => some []
  | j :: l => bif Nat.blt j lo then readObs P ρ o mask dr v lo l else
    match readAt P ρ o mask dr j, readObs P ρ o mask dr v lo l with
    | some u, some r => some ((AV.beq u v, true) :: r)
    | _, _ => none
theorem readObs_ok {P : Program} {ρ : Rho} {o : Oper} {mask : Nat} {dr : Dr} {v : AV} {lo : Nat} : ∀ {l : List Nat} {ob : Obs}, readObs P ρ o mask dr v lo l = some ob → Holds ob →
    (l.all fun j => Nat.blt j lo || agree (readAt P ρ o mask dr j) v) = true
  | [], _, _, _ => rfl
  | j :: l, ob, hs, hh => by
    simp only [readObs] at hs
    rw [List.all_cons, Bool.and_eq_true]
    cases hb : Nat.blt j lo with
    | true => simp only [hb, cond_true] at hs; exact ⟨rfl, readObs_ok hs hh⟩
    | false =>
      simp only [hb, cond_false] at hs
      split at hs
      · rename_i u r h1 h2
        simp at hs; subst hs
        refine ⟨?_, readObs_ok h2 hh.2⟩
        rw [h1]; exact hh.1
      · simp at hs

def stepRD (P : Program) (callD : CalleeD) (dec : Dec) (ops : Array Oper) (ms : List Nat) (T0 : Tr AV) (dsts : List (Nat × Nat)) (i : Nat) (dr : Dr) : Option (Dr × Obs) :=
  match ops[i]? with
  | none => none
  | some o =>
    match wantedR ops o (lookR T0 dsts (lateB ms i) (ms.getD i 0) dr.recs) with
    | none => none
    | some false => some ({ dr with recs := ⟨i, o.dst, .tup [], dr.Hs.length - 1, dr.nx, dr.nx, none, false⟩ :: dr.recs }, [])
    | some true => match cls o.op with
      | 0 => match aop P (rhoR (lookR T0 dsts (lateB ms i) (ms.getD i 0) dr.recs)) o .leaf 0 with
        | some (.val v _ _) => some ({ dr with recs := ⟨i, o.dst, (settle dec o.dst v).1, dr.Hs.length - 1, dr.nx, dr.nx, none, false⟩ :: dr.recs }, (settle dec o.dst v).2)
        | _ => none
      | 1 => match aop P (rhoR (lookR T0 dsts (lateB ms i) (ms.getD i 0) dr.recs)) o .leaf dr.nx with
        | some (.val v h _) => match h.get dr.nx with
          | some b => bif dr.Hs.all fun H => (H.get dr.nx).isNone then some ({ dr with recs := ⟨i, o.dst, v, dr.Hs.length - 1, dr.nx, dr.nx + 1, some b, false⟩ :: dr.recs, nx := dr.nx + 1 }, []) else none
          | none => none
        | _ => none
      | 2 => match readAt P (rhoR (lookR T0 dsts (lateB ms i) (ms.getD i 0) dr.recs)) o (ms.getD i 0) dr (dr.Hs.length - 1) with
        | some v => match readObs P (rhoR (lookR T0 dsts (lateB ms i) (ms.getD i 0) dr.recs)) o (ms.getD i 0) dr v (loOf (ms.getD i 0) dr.recs) (List.range (dr.Hs.length - 1)) with
          | some ob => some ({ dr with recs := ⟨i, o.dst, (settle dec o.dst v).1, dr.Hs.length - 1, dr.nx, dr.nx, none, false⟩ :: dr.recs }, ob ++ (settle dec o.dst v).2)
          | none => none
        | none => none
      | _ => bif dr.recs.all fun r => (ms.getD i 0).testBit r.i || !(Nat.beq r.s (dr.Hs.length - 1) || (r.hv && Nat.beq (r.s + 1) (dr.Hs.length - 1))) then
          match dr.Hs[dr.Hs.length - 1]? with
          | some H => match aStepD P callD dec (rhoR (lookR T0 dsts (lateB ms i) (ms.getD i 0) dr.recs)) o (addAls (ms.getD i 0) (dr.Hs.length - 1) dr.recs H) dr.nx with
            | some (v, h, nx, ob) => bif Nat.ble dr.nx nx then some (⟨⟨i, o.dst, v, dr.Hs.length - 1, dr.nx, nx, none, true⟩ :: dr.recs, dr.Hs ++ [h], nx⟩, ob) else none
            | none => none
          | none => none
        else none

theorem stepRD_ok {P : Program} {callD : CalleeD} {call : Callee} (href : Refines callD call) {dec : Dec} {ops : Array Oper} {ms : List Nat} {T0 : Tr AV} {dsts : List (Nat × Nat)} {i : Nat} {dr dr' : Dr} {ob : Obs} (hs : stepRD P callD dec ops ms T0 dsts i dr = some (dr', ob)) (hh : Holds ob) :
    stepR P call ops ms T0 dsts i dr = some dr' := by
  cases ho : ops[i]? with
  | none => simp [stepRD, ho] at hs
  | some o =>
    simp only [stepRD, ho] at hs
    simp only [stepR, ho]
    cases hw : wantedR ops o (lookR T0 dsts (lateB ms i) (ms.getD i 0) dr.recs) with
    | none => simp only [hw] at hs; simp at hs
    | some b =>
      cases b with
      | false => simp only [hw] at hs; simp at hs; obtain ⟨rfl, _⟩ := hs; rfl
      | true =>
        simp only [hw] at hs
        simp only
        split at hs
        · rename_i hc
          simp only [hc]
          split at hs
          · rename_i v hp n ha
            simp at hs; obtain ⟨rfl, rfl⟩ := hs
            simp only [ha, settle_ok hh]
          · simp at hs
        · rename_i hc
          simp only [hc]
          split at hs
          · rename_i v hp n ha
            simp only [ha]
            split at hs
            · rename_i b hb
              simp only [hb]
              cases hall : (dr.Hs.all fun H => (H.get dr.nx).isNone) with
              | false => simp only [hall, cond_false] at hs; simp at hs
              | true => simp only [hall, cond_true] at hs ⊢; simp at hs; obtain ⟨rfl, _⟩ := hs; rfl
            · simp at hs
          · simp at hs
        · rename_i hc
          simp only [hc]
          split at hs
          · rename_i v hv
            simp only [hv]
            split at hs
            · rename_i ob' hob
              simp at hs; obtain ⟨rfl, rfl⟩ := hs
              obtain ⟨a, b⟩ := hh.app
              rw [readObs_ok hob a, cond_true, settle_ok b]
            · simp at hs
          · simp at hs
        · rename_i hc0 hc1 hc2
          split
          · rename_i hc; exact absurd hc hc0
          · rename_i hc; exact absurd hc hc1
          · rename_i hc; exact absurd hc hc2
          · cases hall : (dr.recs.all fun r => (ms.getD i 0).testBit r.i || !(Nat.beq r.s (dr.Hs.length - 1) || (r.hv && Nat.beq (r.s + 1) (dr.Hs.length - 1)))) with
            | false => simp only [hall, cond_false] at hs; simp at hs
            | true =>
              simp only [hall, cond_true] at hs ⊢
              split at hs
              · rename_i H hH
                simp only [hH]
                split at hs
                · rename_i v h nx ob' ha
                  cases hle : Nat.ble dr.nx nx with
                  | false => simp only [hle, cond_false] at hs; simp at hs
                  | true =>
                    simp only [hle, cond_true] at hs
                    simp at hs; obtain ⟨rfl, rfl⟩ := hs
                    simp only [aStepD_ok href ha hh, hle, cond_true]
                · simp at hs
              · simp at hs

def runRD (P : Program) (callD : CalleeD) (dec : Dec) (ops : Array Oper) (ms : List Nat) (T0 : Tr AV) (dsts : List (Nat × Nat)) : List Nat → Dr → Option (Dr × Obs)
  | [], dr => some (dr, [])
  | i :: l, dr => match stepRD P callD dec ops ms T0 dsts i dr with
    | some (dr, ob) => match runRD P callD dec ops ms T0 dsts l dr with
      | some (dr, ob') => some (dr, ob ++ ob')
      | none => none
    | none => none
theorem runRD_ok {P : Program} {callD : CalleeD} {call : Callee} (hc : Refines callD call) {dec : Dec} {ops : Array Oper} {ms : List Nat} {T0 : Tr AV} {dsts : List (Nat × Nat)} : ∀ {l : List Nat} {dr dr' : Dr} {ob : Obs}, runRD P callD dec ops ms T0 dsts l dr = some (dr', ob) → Holds ob → runR P call ops ms T0 dsts l dr = some dr'
  | [], dr, dr', ob, hs, _ => by simp only [runRD] at hs; simp at hs; obtain ⟨rfl, _⟩ := hs; rfl
  | i :: l, dr, dr', ob, hs, hh => by
    simp only [runRD] at hs
    split at hs
    · rename_i d1 o1 h1
      split at hs
      · rename_i d2 o2 h2
        simp at hs; obtain ⟨rfl, rfl⟩ := hs
        obtain ⟨a, b⟩ := hh.app
        simp only [runR, stepRD_ok hc h1 a]; exact runRD_ok hc h2 b
      · simp at hs
    · simp at hs

def drawRD (P : Program) (callD : CalleeD) (dec : Dec) (ops : Array Oper) (st : St) : Option (St × Obs) :=
  match masks ops.toList [] with
  | none => none
  | some ms =>
    match runRD P callD dec ops ms st.tm (writers ops.toList 0) (orderR ms ops.size ((List.range ops.size).filter (isGreat ops)) []) ⟨[], [st.h], st.nx⟩ with
    | none => none
    | some (dr, ob) =>
      bif uniqR dr.recs && (List.range ops.size).all (fun i => dr.recs.any fun r => Nat.beq r.i i) then
        match dr.Hs[dr.Hs.length - 1]?, putAll st.nt dr.recs st.tm with
        | some H, some T => some (⟨T, st.nt, addAll (dr.Hs.length - 1) dr.recs H, dr.nx⟩, ob)
        | _, _ => none
      else none
theorem drawRD_ok {P : Program} {callD : CalleeD} {call : Callee} (hc : Refines callD call) {dec : Dec} {ops : Array Oper} {st st' : St} {ob : Obs} (hs : drawRD P callD dec ops st = some (st', ob)) (hh : Holds ob) : drawR P call ops st = some st' := by
  unfold drawRD at hs
  unfold drawR
  cases hms : masks ops.toList [] with
  | none => simp [hms] at hs
  | some ms =>
    simp only [hms] at hs ⊢
    split at hs
    · simp at hs
    · rename_i dr ob' hrun
      simp only [Bool.cond_eq_ite] at hs
      split at hs
      · rename_i hchk
        split at hs
        · rename_i H T hH hT
          simp at hs; obtain ⟨rfl, rfl⟩ := hs
          have := runRD_ok hc hrun hh
          rw [this]
          simp only [hchk, cond_true, hH, hT]
        · simp at hs
      · simp at hs

def aLoopD (f : St → Option (Ex × St × Obs)) : Nat → St → Option (Ex × St × Obs)
  | 0, _ => none
  | n + 1, st => match f st with
    | some (.normal, st, ob) => match aLoopD f n st with
      | some (e, st, ob') => some (e, st, ob ++ ob')
      | none => none
    | r => r
theorem aLoopD_ok {f : St → Option (Ex × St × Obs)} {g : St → Option (Ex × St)} (hf : ∀ st e st' ob, f st = some (e, st', ob) → Holds ob → g st = some (e, st')) : ∀ {n : Nat} {st st' : St} {e : Ex} {ob : Obs}, aLoopD f n st = some (e, st', ob) → Holds ob → aLoop g n st = some (e, st')
  | 0, st, st', e, ob, hs, _ => by simp [aLoopD] at hs
  | n + 1, st, st', e, ob, hs, hh => by
    simp only [aLoopD] at hs
    split at hs
    · rename_i s1 o1 h1
      split at hs
      · rename_i e2 s2 o2 h2
        simp at hs; obtain ⟨rfl, rfl, rfl⟩ := hs
        obtain ⟨a, b⟩ := hh.app
        simp only [aLoop, hf _ _ _ _ h1 a]; exact aLoopD_ok hf h2 b
      · simp at hs
    · rename_i hne
      have := hf _ _ _ _ hs hh
      simp only [aLoop, this]
      cases e with
      | normal => exact absurd hs (hne st' ob)
      | exit j => rfl
      | ret => rfl

def aCodeD (P : Program) (callD : CalleeD) (dec : Dec) : Code → St → Option (Ex × St × Obs)
  | .skip, st => some (.normal, st, [])
  | .region _ ops false, st => match aOpsD P callD dec ops ops.toList st with
    | some (st, ob) => some (.normal, st, ob)
    | none => none
  | .region _ ops true, st => match drawRD P callD dec ops st with
    | some (st, ob) => some (.normal, st, ob)
    | none => none
  | .seq a b, st => match aCodeD P callD dec a st with
    | some (.normal, st, ob) => match aCodeD P callD dec b st with
      | some (e, st, ob') => some (e, st, ob ++ ob')
      | none => none
    | r => r
  | .cond c a b, st => match st.rho c with
    | some (.bool true) => aCodeD P callD dec a st
    | some (.bool false) => aCodeD P callD dec b st
    | _ => none
  | .block id c, st => match aCodeD P callD dec c st with
    | some (.exit j, st, ob) => bif Nat.beq j id then some (.normal, st, ob) else some (.exit j, st, ob)
    | r => r
  | .loop c, st => aLoopD (aCodeD P callD dec c) 100000 st
  | .exit id, st => some (.exit id, st, [])
  | .scope c, st => aCodeD P callD dec c st
  | .label _, st => some (.normal, st, [])
  | .ret, st => some (.ret, st, [])
  | _, _ => none

theorem aCodeD_ok {P : Program} {callD : CalleeD} {call : Callee} (hc : Refines callD call) {dec : Dec} : ∀ {c : Code} {st st' : St} {e : Ex} {ob : Obs}, aCodeD P callD dec c st = some (e, st', ob) → Holds ob → aCode P call (drawR P call) c st = some (e, st') := by
  intro c
  induction c with
  | skip => intro st st' e ob hs _; simp only [aCodeD] at hs; simp at hs; obtain ⟨rfl, rfl, _⟩ := hs; rfl
  | label => intro st st' e ob hs _; simp only [aCodeD] at hs; simp at hs; obtain ⟨rfl, rfl, _⟩ := hs; rfl
  | ret => intro st st' e ob hs _; simp only [aCodeD] at hs; simp at hs; obtain ⟨rfl, rfl, _⟩ := hs; rfl
  | exit => intro st st' e ob hs _; simp only [aCodeD] at hs; simp at hs; obtain ⟨rfl, rfl, _⟩ := hs; rfl
  | region id ops d =>
    intro st st' e ob hs hh
    cases d with
    | false =>
      simp only [aCodeD] at hs
      split at hs
      · rename_i s1 o1 h1; simp at hs; obtain ⟨rfl, rfl, rfl⟩ := hs; simp only [aCode, aOpsD_ok hc h1 hh]
      · simp at hs
    | true =>
      simp only [aCodeD] at hs
      split at hs
      · rename_i s1 o1 h1; simp at hs; obtain ⟨rfl, rfl, rfl⟩ := hs; simp only [aCode, drawRD_ok hc h1 hh]
      · simp at hs
  | seq c d ihc ihd =>
    intro st st' e ob hs hh
    simp only [aCodeD] at hs
    split at hs
    · rename_i s1 o1 h1
      split at hs
      · rename_i e2 s2 o2 h2
        simp at hs; obtain ⟨rfl, rfl, rfl⟩ := hs
        obtain ⟨a, b⟩ := hh.app
        simp only [aCode, ihc h1 a]; exact ihd h2 b
      · simp at hs
    · rename_i hne
      have := ihc hs hh
      simp only [aCode, this]
      cases e with
      | normal => exact absurd hs (hne st' ob)
      | exit j => rfl
      | ret => rfl
  | cond z c d ihc ihd =>
    intro st st' e ob hs hh
    simp only [aCodeD] at hs
    split at hs
    · rename_i hz; simp only [aCode, hz]; exact ihc hs hh
    · rename_i hz; simp only [aCode, hz]; exact ihd hs hh
    · simp at hs
  | block id c ih =>
    intro st st' e ob hs hh
    simp only [aCodeD] at hs
    split at hs
    · rename_i j s1 o1 h1
      cases hb : Nat.beq j id with
      | true => simp only [hb, cond_true] at hs; simp at hs; obtain ⟨rfl, rfl, rfl⟩ := hs; simp only [aCode, ih h1 hh, hb, cond_true]
      | false => simp only [hb, cond_false] at hs; simp at hs; obtain ⟨rfl, rfl, rfl⟩ := hs; simp only [aCode, ih h1 hh, hb, cond_false]
    · rename_i hne
      have := ih hs hh
      simp only [aCode, this]
      cases e with
      | exit j => exact absurd hs (hne j st' ob)
      | normal => rfl
      | ret => rfl
  | loop c ih =>
    intro st st' e ob hs hh
    simp only [aCodeD] at hs
    simp only [aCode]
    exact aLoopD_ok (fun st e st' ob h1 h2 => ih h1 h2) hs hh
  | scope c ih => intro st st' e ob hs hh; simp only [aCodeD] at hs; simp only [aCode]; exact ih hs hh
  | rangeFunc f ps as b => intro st st' e ob hs hh; simp [aCodeD] at hs
  | goto l => intro st st' e ob hs hh; simp [aCodeD] at hs
  | refuse y => intro st st' e ob hs hh; simp [aCodeD] at hs
end
end Go.Proofs.YtgihpgdjkanodaaGreatDoor.Ev

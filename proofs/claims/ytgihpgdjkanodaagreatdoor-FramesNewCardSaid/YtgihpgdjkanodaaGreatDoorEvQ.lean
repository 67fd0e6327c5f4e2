/-
  Helper text: regions that draw their order, in our own machine: what is done, and that it may be done in any order; no statement is proved here.
-/
import Derived.Test.YtgihpgdjkanodaaGreatDoorEvP
namespace Go.Proofs.YtgihpgdjkanodaaGreatDoor.Ev
noncomputable section
open Go Go.RowKit

def dIs (d : Option Tmp) (t : Nat) : Bool := match d with
  | some u => Nat.beq u t
  | none => false

/-- What a slot holds for an operation: only what is ahead of it may have been written, or what is behind it will write it. -/
def lookR (T0 : Tr AV) (dsts : List (Nat × Nat)) (late : Nat → Bool) (mask : Nat) : List Rc → Nat → Option AV
  | [], t => bif dsts.all (fun p => !(Nat.beq p.2 t) || late p.1) then T0.get t else none
  | r :: l, t => bif dIs r.d t then (bif mask.testBit r.i then some r.v else none) else lookR T0 dsts late mask l t

/-- Is it behind the i-th? -/
def lateB (ms : List Nat) (i : Nat) (w : Nat) : Bool := (ms.getD w 0).testBit i

/-- The operations that write slots, from the k-th on. -/
def writers : List Oper → Nat → List (Nat × Nat)
  | [], _ => []
  | o :: l, k => match o.dst with
    | some d => (k, d) :: writers l (k + 1)
    | none => writers l (k + 1)

theorem writers_mem {d : Nat} : ∀ {l : List Oper} {k i : Nat} {o : Oper}, l[i]? = some o → o.dst = some d → (k + i, d) ∈ writers l k
  | [], k, i, o, h, _ => by simp at h
  | a :: l, k, 0, o, h, hd => by
    simp at h; subst h
    unfold writers; rw [hd]; simp
  | a :: l, k, i + 1, o, h, hd => by
    have := writers_mem (l := l) (k := k + 1) (i := i) (by simpa using h) hd
    rw [show k + 1 + i = k + (i + 1) by omega] at this
    unfold writers
    split
    · exact List.mem_cons_of_mem _ this
    · exact this

def rhoR (look : Nat → Option AV) : Rho
  | .tmp t => look t
  | .const v => ofV v
  | .global g => bif Nat.blt g 1000 then some (.ptr g 0) else none
  | .func f => some (.func (.func f) [] [])

/-- Memory with the blocks that were made by what is ahead, since the k-th great one. -/
def addAls (mask k : Nat) : List Rc → Hp → Hp
  | [], h => h
  | r :: l, h => match r.al with
    | some b => bif Nat.ble k r.s && mask.testBit r.i then addAls mask k l (h.set fuelT r.lo (some b)) else addAls mask k l h
    | none => addAls mask k l h

def addAll (k : Nat) : List Rc → Hp → Hp
  | [], h => h
  | r :: l, h => match r.al with
    | some b => bif Nat.ble k r.s then addAll k l (h.set fuelT r.lo (some b)) else addAll k l h
    | none => addAll k l h

/-- How many great ones must be ahead. -/
def loOf (mask : Nat) : List Rc → Nat
  | [] => 0
  | r :: l => bif r.hv && mask.testBit r.i then Nat.max (r.s + 1) (loOf mask l) else loOf mask l

structure Dr where
  recs : List Rc
  Hs : List Hp
  nx : Nat

def readAt (P : Program) (ρ : Rho) (o : Oper) (mask : Nat) (dr : Dr) (k : Nat) : Option AV :=
  match dr.Hs[k]? with
  | some H => match aop P ρ o (addAls mask k dr.recs H) 0 with
    | some (.val v _ n) => bif Nat.beq n 0 then some v else none
    | _ => none
  | none => none

/-- Do both say the same? -/
def agree (x : Option AV) (v : AV) : Bool := match x with
  | some u => AV.beq u v
  | none => false

def isGreat (ops : Array Oper) (i : Nat) : Bool := match ops[i]? with
  | some o => Nat.ble 3 (cls o.op)
  | none => false

def stepR (P : Program) (call : Callee) (ops : Array Oper) (ms : List Nat) (T0 : Tr AV) (dsts : List (Nat × Nat)) (i : Nat) (dr : Dr) : Option Dr :=
  match ops[i]? with
  | none => none
  | some o =>
    let mask := ms.getD i 0
    let look := lookR T0 dsts (lateB ms i) mask dr.recs
    let k := dr.Hs.length - 1
    match wantedR ops o look with
    | none => none
    | some false => some { dr with recs := ⟨i, o.dst, .tup [], k, dr.nx, dr.nx, none, false⟩ :: dr.recs }
    | some true => match cls o.op with
      | 0 => match aop P (rhoR look) o .leaf 0 with
        | some (.val v _ _) => some { dr with recs := ⟨i, o.dst, v, k, dr.nx, dr.nx, none, false⟩ :: dr.recs }
        | _ => none
      | 1 => match aop P (rhoR look) o .leaf dr.nx with
        | some (.val v h _) => match h.get dr.nx with
          | some b => bif dr.Hs.all fun H => (H.get dr.nx).isNone then some { dr with recs := ⟨i, o.dst, v, k, dr.nx, dr.nx + 1, some b, false⟩ :: dr.recs, nx := dr.nx + 1 } else none
          | none => none
        | _ => none
      | 2 => match readAt P (rhoR look) o mask dr k with
        | some v => bif (List.range k).all fun j => Nat.blt j (loOf mask dr.recs) || agree (readAt P (rhoR look) o mask dr j) v then
            some { dr with recs := ⟨i, o.dst, v, k, dr.nx, dr.nx, none, false⟩ :: dr.recs } else none
        | none => none
      | _ => bif dr.recs.all fun r => mask.testBit r.i || !(Nat.beq r.s k || (r.hv && Nat.beq (r.s + 1) k)) then
          match dr.Hs[k]? with
          | some H => match aStep P call (rhoR look) o (addAls mask k dr.recs H) dr.nx with
            | some (v, h, nx) => bif Nat.ble dr.nx nx then some ⟨⟨i, o.dst, v, k, dr.nx, nx, none, true⟩ :: dr.recs, dr.Hs ++ [h], nx⟩ else none
            | none => none
          | none => none
        else none

def runR (P : Program) (call : Callee) (ops : Array Oper) (ms : List Nat) (T0 : Tr AV) (dsts : List (Nat × Nat)) : List Nat → Dr → Option Dr
  | [], dr => some dr
  | i :: l, dr => match stepR P call ops ms T0 dsts i dr with
    | some dr => runR P call ops ms T0 dsts l dr
    | none => none

/-- The order in which we go: what must be ahead of the first great one, that one, and so on; the rest at the end. -/
def orderR (ms : List Nat) (n : Nat) : List Nat → List Nat → List Nat
  | [], done => (List.range n).filter fun i => !done.any (Nat.beq i)
  | g :: l, done =>
    let a := (List.range n).filter fun i => (ms.getD g 0).testBit i && !done.any (Nat.beq i)
    a ++ g :: orderR ms n l (g :: a ++ done)

def uniqR : List Rc → Bool
  | [] => true
  | r :: l => (l.all fun q => !(Nat.beq q.i r.i) && (match r.d, q.d with | some a, some b => !(Nat.beq a b) | _, _ => true)) && uniqR l

def putAll (nt : Nat) : List Rc → Tr AV → Option (Tr AV)
  | [], t => some t
  | r :: l, t => match r.d with
    | some d => bif Nat.blt d nt then putAll nt l (t.set fuelT d (some r.v)) else none
    | none => putAll nt l t

def drawR (P : Program) (call : Callee) : Draw := fun ops st =>
  match masks ops.toList [] with
  | none => none
  | some ms =>
    let dsts := writers ops.toList 0
    let great := (List.range ops.size).filter (isGreat ops)
    match runR P call ops ms st.tm dsts (orderR ms ops.size great []) ⟨[], [st.h], st.nx⟩ with
    | none => none
    | some dr =>
      bif uniqR dr.recs && (List.range ops.size).all (fun i => dr.recs.any fun r => Nat.beq r.i i) then
        match dr.Hs[dr.Hs.length - 1]?, putAll st.nt dr.recs st.tm with
        | some H, some T => some ⟨T, st.nt, addAll (dr.Hs.length - 1) dr.recs H, dr.nx⟩
        | _, _ => none
      else none
end
end Go.Proofs.YtgihpgdjkanodaaGreatDoor.Ev

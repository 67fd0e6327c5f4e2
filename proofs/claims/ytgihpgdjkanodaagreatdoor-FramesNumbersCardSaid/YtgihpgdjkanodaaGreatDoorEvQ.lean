/-
  Helper text, several in one; no statement is proved here.
-/
import Derived.Test.YtgihpgdjkanodaaGreatDoorEvO
namespace Go.Proofs.YtgihpgdjkanodaaGreatDoor.Ev
noncomputable section
open Go Go.RowKit

abbrev Hf := Nat → Option Blk

structure HRf (σ : Sg) (Y : Hf) (w : World) : Prop where
  has : ∀ id blk, Y id = some blk → BR σ w id blk
  inj : ∀ i j bi bj p q, Y i = some bi → Y j = some bj → σ i = some p → σ j = some q → p.1 = q.1 → (wr bi = true ∨ wr bj = true) → i = j

def ownedf (σ : Sg) (Y : Hf) (b : Nat) : Prop := ∃ id blk p, Y id = some blk ∧ wr blk = true ∧ σ id = some p ∧ p.1 = b
def livesf (σ : Sg) (Y : Hf) (b : Nat) : Prop := ∃ id blk p, Y id = some blk ∧ σ id = some p ∧ p.1 = b

structure Stpf (σ : Sg) (Y : Hf) (w : World) (τ : Sg) (Z : Hf) (w' : World) : Prop where
  os : w'.os = w.os
  tape : w'.tape = w.tape
  output : w'.output = w.output
  size : w.heap.size ≤ w'.heap.size
  keep : ∀ b, b < w.heap.size → ¬ ownedf σ Y b → w'.heap[b]? = w.heap[b]?
  own : ∀ b, b < w.heap.size → ownedf τ Z b → ownedf σ Y b
  lvs : ∀ b, b < w.heap.size → livesf τ Z b → livesf σ Y b

def Sub (Z Y : Hf) : Prop := ∀ id blk, Z id = some blk → Y id = some blk

theorem HR.f {σ : Sg} {h : Hp} {w : World} (x : HR σ h w) : HRf σ h.get w := ⟨x.has, x.inj⟩
theorem HRf.sub {σ : Sg} {Y : Hf} {w : World} (x : HRf σ Y w) {h : Hp} (s : Sub h.get Y) : HR σ h w :=
  ⟨fun i b hi => x.has i b (s _ _ hi), fun i j bi bj p q hi hj => x.inj i j bi bj p q (s _ _ hi) (s _ _ hj)⟩
theorem Stpf.refl (σ : Sg) (Y : Hf) (w : World) : Stpf σ Y w σ Y w := ⟨rfl, rfl, rfl, Nat.le_refl _, fun _ _ _ => rfl, fun _ _ x => x, fun _ _ x => x⟩
theorem Stpf.trans {σ τ ρ : Sg} {h k l : Hf} {u v w : World} (x : Stpf σ h u τ k v) (y : Stpf τ k v ρ l w) : Stpf σ h u ρ l w :=
  ⟨y.os.trans x.os, y.tape.trans x.tape, y.output.trans x.output, Nat.le_trans x.size y.size,
   fun b hb ho => (y.keep b (Nat.lt_of_lt_of_le hb x.size) (fun o => ho (x.own b hb o))).trans (x.keep b hb ho),
   fun b hb ho => x.own b hb (y.own b (Nat.lt_of_lt_of_le hb x.size) ho),
   fun b hb ho => x.lvs b hb (y.lvs b (Nat.lt_of_lt_of_le hb x.size) ho)⟩
theorem Stpf.back {σ τ : Sg} {h h' : Hp} {Z : Hf} {w w' : World} (x : Stpf σ h.get w τ Z w') (s : Sub h'.get Z) : Stp σ h w τ h' w' :=
  ⟨x.os, x.tape, x.output, x.size, x.keep, fun b hb ⟨i, bi, p, hi, r⟩ => x.own b hb ⟨i, bi, p, s _ _ hi, r⟩, fun b hb ⟨i, bi, p, hi, r⟩ => x.lvs b hb ⟨i, bi, p, s _ _ hi, r⟩⟩

/-- What a part of memory has become, and the rest. -/
def glue (X X' : Hp) (Y : Hf) : Hf := fun id => match X'.get id with
  | some b => some b
  | none => match X.get id with
    | some _ => none
    | none => Y id

theorem glue_cases {X X' : Hp} {Y : Hf} {id : Nat} {blk : Blk} (h : glue X X' Y id = some blk) : X'.get id = some blk ∨ (X'.get id = none ∧ X.get id = none ∧ Y id = some blk) := by
  unfold glue at h
  cases h1 : X'.get id with
  | some b => simp [h1] at h; subst h; exact .inl rfl
  | none =>
    simp only [h1] at h
    cases h2 : X.get id with
    | some b => simp [h2] at h
    | none => simp only [h2] at h; exact .inr ⟨rfl, rfl, h⟩

theorem frame {σ τ : Sg} {X X' : Hp} {Y : Hf} {w w' : World} (x : HRf σ Y w) (s : Sub X.get Y) (hr : HR τ X' w') (st : Stp σ X w τ X' w') (hle : Le σ τ) :
    HRf τ (glue X X' Y) w' ∧ Stpf σ Y w τ (glue X X' Y) w' := by
  have rest : ∀ id blk, X.get id = none → Y id = some blk → ∃ p, σ id = some p ∧ τ id = some p ∧ p.1 < w.heap.size ∧ ¬ owned σ X p.1 ∧ (wr blk = true → ¬ lives σ X p.1) := fun id blk hx hy => by
    obtain ⟨p, hp, hlt⟩ := (x.has id blk hy).lt
    have hn : ∀ j bj q, X.get j = some bj → σ j = some q → q.1 = p.1 → (wr bj = true ∨ wr blk = true) → False := fun j bj q hj hq he hwr => by
      have := x.inj j id bj blk q p (s _ _ hj) hy hq hp he hwr
      subst this; rw [hx] at hj; simp at hj
    exact ⟨p, hp, hle _ _ hp, hlt, fun ⟨j, bj, q, hj, hw, hq, he⟩ => hn j bj q hj hq he (.inl hw), fun hw ⟨j, bj, q, hj, hq, he⟩ => hn j bj q hj hq he (.inr hw)⟩
  refine ⟨⟨fun id blk hi => ?_, fun i j bi bj p q hi hj hp hq he hwr => ?_⟩, st.os, st.tape, st.output, st.size, fun b hb ho => ?_, fun b hb ho => ?_, fun b hb ho => ?_⟩
  · rcases glue_cases hi with hi | ⟨_, hx, hy⟩
    · exact hr.has _ _ hi
    · obtain ⟨p, hp, hp', hlt, hno, _⟩ := rest id blk hx hy
      refine (x.has id blk hy).mono hle fun q hq => ?_
      rw [hp] at hq; obtain rfl := Option.some.inj hq
      exact st.keep _ hlt hno
  · rcases glue_cases hi with hi | ⟨_, hx, hy⟩ <;> rcases glue_cases hj with hj | ⟨_, hx2, hy2⟩
    · exact hr.inj i j bi bj p q hi hj hp hq he hwr
    · obtain ⟨q0, hq0, hq', hlt, hno, hnl⟩ := rest j bj hx2 hy2
      rw [hq'] at hq; obtain rfl := Option.some.inj hq
      rcases hwr with hw | hw
      · exact absurd (st.own _ hlt ⟨i, bi, p, hi, hw, hp, he⟩) hno
      · exact absurd (st.lvs _ hlt ⟨i, bi, p, hi, hp, he⟩) (hnl hw)
    · obtain ⟨p0, hp0, hp', hlt, hno, hnl⟩ := rest i bi hx hy
      rw [hp'] at hp; obtain rfl := Option.some.inj hp
      rcases hwr with hw | hw
      · exact absurd (st.lvs _ hlt ⟨j, bj, q, hj, hq, he.symm⟩) (hnl hw)
      · exact absurd (st.own _ hlt ⟨j, bj, q, hj, hw, hq, he.symm⟩) hno
    · obtain ⟨p0, hp0, hp', _⟩ := rest i bi hx hy
      obtain ⟨q0, hq0, hq', _⟩ := rest j bj hx2 hy2
      rw [hp'] at hp; obtain rfl := Option.some.inj hp
      rw [hq'] at hq; obtain rfl := Option.some.inj hq
      exact x.inj i j bi bj _ _ hy hy2 hp0 hq0 he hwr
  · exact st.keep b hb fun ⟨i, bi, p, hi, r⟩ => ho ⟨i, bi, p, s _ _ hi, r⟩
  · obtain ⟨i, bi, p, hi, hw, hp, he⟩ := ho
    rcases glue_cases hi with hi | ⟨_, hx, hy⟩
    · obtain ⟨j, bj, q, hj, r⟩ := st.own b hb ⟨i, bi, p, hi, hw, hp, he⟩
      exact ⟨j, bj, q, s _ _ hj, r⟩
    · obtain ⟨p0, hp0, hp', _⟩ := rest i bi hx hy
      rw [hp'] at hp; obtain rfl := Option.some.inj hp
      exact ⟨i, bi, _, hy, hw, hp0, he⟩
  · obtain ⟨i, bi, p, hi, hp, he⟩ := ho
    rcases glue_cases hi with hi | ⟨_, hx, hy⟩
    · obtain ⟨j, bj, q, hj, r⟩ := st.lvs b hb ⟨i, bi, p, hi, hp, he⟩
      exact ⟨j, bj, q, s _ _ hj, r⟩
    · obtain ⟨p0, hp0, hp', _⟩ := rest i bi hx hy
      rw [hp'] at hp; obtain rfl := Option.some.inj hp
      exact ⟨i, bi, _, hy, hp0, he⟩

/-- An operation done in a region: its number, where its value goes, the value, how many great ones were before it, the numbers of its blocks, the block that it makes, whether it is a great one. -/
structure Rc where
  i : Nat
  d : Option Tmp
  v : AV
  s : Nat
  lo : Nat
  hi : Nat
  al : Option Blk
  hv : Bool

def maskOf (acc : List Nat) : List Edge → Nat
  | [] => 0
  | e :: l => bif Region.binds .any e then (2 ^ e.on) ||| acc.getD e.on 0 ||| maskOf acc l else maskOf acc l

/-- What is ahead of each operation. -/
def masks : List Oper → List Nat → Option (List Nat)
  | [], acc => some acc
  | o :: l, acc => bif o.after.toList.all fun e => !Region.binds .any e || Nat.blt e.on acc.length then masks l (acc ++ [maskOf acc o.after.toList]) else none

def Cl (ops : Array Oper) (L : Nat → Prop) : Prop := ∀ i o, ops[i]? = some o → L i → ∀ e ∈ o.after.toList, Region.binds .any e = true → L e.on

theorem maskOf_bit {acc : List Nat} : ∀ {l : List Edge} {j : Nat}, (maskOf acc l).testBit j = true → ∃ e ∈ l, Region.binds .any e = true ∧ (e.on = j ∨ (acc.getD e.on 0).testBit j = true)
  | [], j, h => by simp [maskOf] at h
  | e :: l, j, h => by
    simp only [maskOf] at h
    cases hb : Region.binds .any e with
    | false =>
      simp only [hb, cond_false] at h
      obtain ⟨f, hf, r⟩ := maskOf_bit h
      exact ⟨f, by simp [hf], r⟩
    | true =>
      simp only [hb, cond_true, Nat.testBit_or, Bool.or_eq_true] at h
      rcases h with (h | h) | h
      · rw [Nat.testBit_two_pow] at h
        exact ⟨e, by simp, hb, .inl (by simpa using h)⟩
      · exact ⟨e, by simp, hb, .inr h⟩
      · obtain ⟨f, hf, r⟩ := maskOf_bit h
        exact ⟨f, by simp [hf], r⟩

theorem masks_spec : ∀ (l : List Oper) (acc ms : List Nat), masks l acc = some ms → acc <+: ms ∧ ms.length = acc.length + l.length ∧ ∀ k o, l[k]? = some o →
    (∀ e ∈ o.after.toList, Region.binds .any e = true → e.on < acc.length + k) ∧ ms.getD (acc.length + k) 0 = maskOf (ms.take (acc.length + k)) o.after.toList
  | [], acc, ms, h => by simp [masks] at h; subst h; exact ⟨List.prefix_refl _, by simp, fun k o ho => by simp at ho⟩
  | o :: l, acc, ms, h => by
    simp only [masks] at h
    cases hb : o.after.toList.all fun e => !Region.binds .any e || Nat.blt e.on acc.length with
    | false => simp only [hb, cond_false] at h; simp at h
    | true =>
      simp only [hb, cond_true] at h
      obtain ⟨h1, h2, h3⟩ := masks_spec l _ _ h
      have hacc : acc <+: ms := (List.prefix_append _ _).trans h1
      refine ⟨hacc, by rw [h2]; simp; omega, fun k p hp => ?_⟩
      cases k with
      | zero =>
        simp at hp; subst hp
        refine ⟨fun e he hbd => ?_, ?_⟩
        · have := (List.all_eq_true.1 hb) e he
          simpa [hbd, Nat.blt_eq] using this
        · obtain ⟨t, ht⟩ := h1
          have e1 : ms.take acc.length = acc := by rw [← ht]; simp
          rw [Nat.add_zero, e1, ← ht]
          simp [List.getD]
      | succ k =>
        have := h3 k p (by simpa using hp)
        simp only [List.length_append, List.length_cons, List.length_nil] at this
        rw [show acc.length + (k + 1) = acc.length + (0 + 1) + k by omega]
        exact this

theorem masks_ok {ops : Array Oper} {ms : List Nat} (h : masks ops.toList [] = some ms) {L : Nat → Prop} (hc : Cl ops L) : ∀ (i : Nat) (o : Oper), ops[i]? = some o → (∀ e ∈ o.after.toList, Region.binds .any e = true → L e.on) →
    ∀ j, (ms.getD i 0).testBit j = true → L j := by
  obtain ⟨_, h2, h3⟩ := masks_spec _ _ _ h
  intro i
  induction i using Nat.strongRecOn with
  | _ i ih =>
    intro o ho he j hj
    obtain ⟨g1, g2⟩ := h3 i o (by simpa using ho)
    simp only [List.length_nil, Nat.zero_add] at g1 g2
    rw [g2] at hj
    obtain ⟨e, hmem, hb, hcase⟩ := maskOf_bit hj
    have hL := he e hmem hb
    rcases hcase with rfl | hcase
    · exact hL
    · have hlt := g1 e hmem hb
      have hget : (ms.take i).getD e.on 0 = ms.getD e.on 0 := by simp [List.getD, List.getElem?_take, hlt]
      rw [hget] at hcase
      have hin : e.on < ops.size := by
        have : i < ops.size := by
          rcases Nat.lt_or_ge i ops.size with x | x
          · exact x
          · rw [Array.getElem?_eq_none x] at ho; simp at ho
        omega
      have hop : ops[e.on]? = some ops[e.on] := Array.getElem?_eq_getElem hin
      exact ih e.on hlt _ hop (hc e.on _ hop hL) j hcase
end
end Go.Proofs.YtgihpgdjkanodaaGreatDoor.Ev

namespace Go.Proofs.YtgihpgdjkanodaaGreatDoor.Ev
noncomputable section
open Go Go.RowKit

def dIs (d : Option Tmp) (t : Nat) : Bool := match d with
  | some u => Nat.beq u t
  | none => false

/-- What a slot holds for an operation: only what is ahead of it may have been written, or what is behind it will write it. -/
def lookR (T0 : Tr AV) (dsts : List (Nat × Nat)) (late : Nat → Bool) (mask : Nat) : List Rc → Nat → Option AV
  | [], t => bif dsts.all (fun p => !(Nat.beq p.2 t) || late p.1) then T0.get t else none
  | r :: l, t => bif dIs r.d t then (bif mask.testBit r.i then some r.v else none) else lookR T0 dsts late mask l t

/-- Is it behind the i-th? -/
def lateB (ms : List Nat) (i : Nat) (w : Nat) : Bool := (ms.getD w 0).testBit i

/-- The operations that write slots, from the k-th on. -/
def writers : List Oper → Nat → List (Nat × Nat)
  | [], _ => []
  | o :: l, k => match o.dst with
    | some d => (k, d) :: writers l (k + 1)
    | none => writers l (k + 1)

theorem writers_mem {d : Nat} : ∀ {l : List Oper} {k i : Nat} {o : Oper}, l[i]? = some o → o.dst = some d → (k + i, d) ∈ writers l k
  | [], k, i, o, h, _ => by simp at h
  | a :: l, k, 0, o, h, hd => by
    simp at h; subst h
    unfold writers; rw [hd]; simp
  | a :: l, k, i + 1, o, h, hd => by
    have := writers_mem (l := l) (k := k + 1) (i := i) (by simpa using h) hd
    rw [show k + 1 + i = k + (i + 1) by omega] at this
    unfold writers
    split
    · exact List.mem_cons_of_mem _ this
    · exact this

def rhoR (look : Nat → Option AV) : Rho
  | .tmp t => look t
  | .const v => ofV v
  | .global g => bif Nat.blt g 1000 then some (.ptr g 0) else none
  | .func f => some (.func (.func f) [] [])

/-- Memory with the blocks that were made by what is ahead, since the k-th great one. -/
def addAls (mask k : Nat) : List Rc → Hp → Hp
  | [], h => h
  | r :: l, h => match r.al with
    | some b => bif Nat.ble k r.s && mask.testBit r.i then addAls mask k l (h.set fuelT r.lo (some b)) else addAls mask k l h
    | none => addAls mask k l h

def addAll (k : Nat) : List Rc → Hp → Hp
  | [], h => h
  | r :: l, h => match r.al with
    | some b => bif Nat.ble k r.s then addAll k l (h.set fuelT r.lo (some b)) else addAll k l h
    | none => addAll k l h

/-- How many great ones must be ahead. -/
def loOf (mask : Nat) : List Rc → Nat
  | [] => 0
  | r :: l => bif r.hv && mask.testBit r.i then Nat.max (r.s + 1) (loOf mask l) else loOf mask l

structure Dr where
  recs : List Rc
  Hs : List Hp
  nx : Nat

def readAt (P : Program) (ρ : Rho) (o : Oper) (mask : Nat) (dr : Dr) (k : Nat) : Option AV :=
  match dr.Hs[k]? with
  | some H => match aop P ρ o (addAls mask k dr.recs H) 0 with
    | some (.val v _ n) => bif Nat.beq n 0 then some v else none
    | _ => none
  | none => none

/-- Do both say the same? -/
def agree (x : Option AV) (v : AV) : Bool := match x with
  | some u => AV.beq u v
  | none => false

def isGreat (ops : Array Oper) (i : Nat) : Bool := match ops[i]? with
  | some o => Nat.ble 3 (cls o.op)
  | none => false

def stepR (P : Program) (call : Callee) (ops : Array Oper) (ms : List Nat) (T0 : Tr AV) (dsts : List (Nat × Nat)) (i : Nat) (dr : Dr) : Option Dr :=
  match ops[i]? with
  | none => none
  | some o =>
    let mask := ms.getD i 0
    let look := lookR T0 dsts (lateB ms i) mask dr.recs
    let k := dr.Hs.length - 1
    match wantedR ops o look with
    | none => none
    | some false => some { dr with recs := ⟨i, o.dst, .tup [], k, dr.nx, dr.nx, none, false⟩ :: dr.recs }
    | some true => match cls o.op with
      | 0 => match aop P (rhoR look) o .leaf 0 with
        | some (.val v _ _) => some { dr with recs := ⟨i, o.dst, v, k, dr.nx, dr.nx, none, false⟩ :: dr.recs }
        | _ => none
      | 1 => match aop P (rhoR look) o .leaf dr.nx with
        | some (.val v h _) => match h.get dr.nx with
          | some b => bif dr.Hs.all fun H => (H.get dr.nx).isNone then some { dr with recs := ⟨i, o.dst, v, k, dr.nx, dr.nx + 1, some b, false⟩ :: dr.recs, nx := dr.nx + 1 } else none
          | none => none
        | _ => none
      | 2 => match readAt P (rhoR look) o mask dr k with
        | some v => bif (List.range k).all fun j => Nat.blt j (loOf mask dr.recs) || agree (readAt P (rhoR look) o mask dr j) v then
            some { dr with recs := ⟨i, o.dst, v, k, dr.nx, dr.nx, none, false⟩ :: dr.recs } else none
        | none => none
      | _ => bif dr.recs.all fun r => mask.testBit r.i || !(Nat.beq r.s k || (r.hv && Nat.beq (r.s + 1) k)) then
          match dr.Hs[k]? with
          | some H => match aStep P call (rhoR look) o (addAls mask k dr.recs H) dr.nx with
            | some (v, h, nx) => bif Nat.ble dr.nx nx then some ⟨⟨i, o.dst, v, k, dr.nx, nx, none, true⟩ :: dr.recs, dr.Hs ++ [h], nx⟩ else none
            | none => none
          | none => none
        else none

def runR (P : Program) (call : Callee) (ops : Array Oper) (ms : List Nat) (T0 : Tr AV) (dsts : List (Nat × Nat)) : List Nat → Dr → Option Dr
  | [], dr => some dr
  | i :: l, dr => match stepR P call ops ms T0 dsts i dr with
    | some dr => runR P call ops ms T0 dsts l dr
    | none => none

/-- The order in which we go: what must be ahead of the first great one, that one, and so on; the rest at the end. -/
def orderR (ms : List Nat) (n : Nat) : List Nat → List Nat → List Nat
  | [], done => (List.range n).filter fun i => !done.any (Nat.beq i)
  | g :: l, done =>
    let a := (List.range n).filter fun i => (ms.getD g 0).testBit i && !done.any (Nat.beq i)
    a ++ g :: orderR ms n l (g :: a ++ done)

def uniqR : List Rc → Bool
  | [] => true
  | r :: l => (l.all fun q => !(Nat.beq q.i r.i) && (match r.d, q.d with | some a, some b => !(Nat.beq a b) | _, _ => true)) && uniqR l

def putAll (nt : Nat) : List Rc → Tr AV → Option (Tr AV)
  | [], t => some t
  | r :: l, t => match r.d with
    | some d => bif Nat.blt d nt then putAll nt l (t.set fuelT d (some r.v)) else none
    | none => putAll nt l t

def drawR (P : Program) (call : Callee) : Draw := fun ops st =>
  match masks ops.toList [] with
  | none => none
  | some ms =>
    let dsts := writers ops.toList 0
    let great := (List.range ops.size).filter (isGreat ops)
    match runR P call ops ms st.tm dsts (orderR ms ops.size great []) ⟨[], [st.h], st.nx⟩ with
    | none => none
    | some dr =>
      bif uniqR dr.recs && (List.range ops.size).all (fun i => dr.recs.any fun r => Nat.beq r.i i) then
        match dr.Hs[dr.Hs.length - 1]?, putAll st.nt dr.recs st.tm with
        | some H, some T => some ⟨T, st.nt, addAll (dr.Hs.length - 1) dr.recs H, dr.nx⟩
        | _, _ => none
      else none
end
end Go.Proofs.YtgihpgdjkanodaaGreatDoor.Ev


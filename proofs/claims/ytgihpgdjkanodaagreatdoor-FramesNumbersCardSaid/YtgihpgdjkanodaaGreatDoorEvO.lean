/-
  Helper text, several in one; no statement is proved here.
-/
import Derived.Test.YtgihpgdjkanodaaGreatDoorEvL
import Derived.Scope
namespace Go.Proofs.YtgihpgdjkanodaaGreatDoor.Ev
noncomputable section
open Go Go.RowKit

structure St where
  tm : Tr AV
  nt : Nat
  h : Hp
  nx : Nat

inductive Ex where
  | normal | exit (id : Nat) | ret

def St.rho (st : St) : Rho
  | .tmp t => st.tm.get t
  | .const v => ofV v
  | .global g => bif Nat.blt g 1000 then some (.ptr g 0) else none
  | .func f => some (.func (.func f) [] [])

def St.put (st : St) (d : Option Tmp) (v : AV) : Option St := match d with
  | some d => bif Nat.blt d st.nt then some { st with tm := st.tm.set fuelT d (some v) } else none
  | none => some st
def St.mem (st : St) (h : Hp) (nx : Nat) : St := { st with h := h, nx := nx }

abbrev Callee := FuncId → List AV → Hp → Nat → Option (AV × Hp × Nat)

/-- A slice that goes beyond its length, where memory of ours shows that there is room. -/
def heapSlice (P : Program) (ρ : Rho) (o : Oper) (h : Hp) (nx : Nat) : Option (AV × Hp × Nat) := match o.op with
  | .slice t x lo hi none => match P.underlying t, ρ x, optO ρ lo, optO ρ hi with
    | some (.slice e), some (.sl id off len (.opn k)), some a, some b => match size? P e, bndA 0 a, bndA len b, row? h id with
      | some s, some l, some u, some cs => bif decide (0 ≤ l) && decide (l < u) && (Nat.beq s k && Nat.ble 1 s && Nat.ble (off + u.toNat * s) cs.length) then
          some (.sl id (off + l.toNat * s) (u.toNat - l.toNat) (.opn k), h, nx) else none
      | _, _, _, _ => none
    | _, _, _, _ => none
  | _ => none

/-- One operation: what it gives, and memory behind it. -/
def aStep (P : Program) (call : Callee) (ρ : Rho) (o : Oper) (h : Hp) (nx : Nat) : Option (AV × Hp × Nat) :=
  match aop P ρ o h nx with
  | some (.val v h nx) => some (v, h, nx)
  | some (.skip h nx) => some (.tup [], h, nx)
  | some (.enter f args) => call f args h nx
  | none => heapSlice P ρ o h nx

/-- Is the operation wanted? -/
def wantedR (ops : Array Oper) (o : Oper) (look : Nat → Option AV) : Option Bool :=
  match o.guard with
  | none => some true
  | some (j, b) => match (ops[j]?).bind (·.dst) with
    | some d => match look d with
      | some (.bool c) => some (c == b)
      | some (.tup []) => some false
      | _ => none
    | none => none

def aOper (P : Program) (call : Callee) (ops : Array Oper) (o : Oper) (st : St) : Option St :=
  match wantedR ops o st.tm.get with
  | some true => match aStep P call st.rho o st.h st.nx with
    | some (v, h, nx) => (st.mem h nx).put o.dst v
    | none => none
  | some false => st.put o.dst (.tup [])
  | none => none

def aOps (P : Program) (call : Callee) (ops : Array Oper) : List Oper → St → Option St
  | [], st => some st
  | o :: l, st => match aOper P call ops o st with
    | some st => aOps P call ops l st
    | none => none

def aLoop (f : St → Option (Ex × St)) : Nat → St → Option (Ex × St)
  | 0, _ => none
  | n + 1, st => match f st with
    | some (.normal, st) => aLoop f n st
    | r => r

abbrev Draw := Array Oper → St → Option St

def aCode (P : Program) (call : Callee) (draw : Draw) : Code → St → Option (Ex × St)
  | .skip, st => some (.normal, st)
  | .region _ ops false, st => match aOps P call ops ops.toList st with
    | some st => some (.normal, st)
    | none => none
  | .region _ ops true, st => match draw ops st with
    | some st => some (.normal, st)
    | none => none
  | .seq a b, st => match aCode P call draw a st with
    | some (.normal, st) => aCode P call draw b st
    | r => r
  | .cond c a b, st => match st.rho c with
    | some (.bool true) => aCode P call draw a st
    | some (.bool false) => aCode P call draw b st
    | _ => none
  | .block id c, st => match aCode P call draw c st with
    | some (.exit j, st) => bif Nat.beq j id then some (.normal, st) else some (.exit j, st)
    | r => r
  | .loop c, st => aLoop (aCode P call draw c) 100000 st
  | .exit id, st => some (.exit id, st)
  | .scope c, st => aCode P call draw c st
  | .label _, st => some (.normal, st)
  | .ret, st => some (.ret, st)
  | _, _ => none

def exitOf : Ex → Exit
  | .normal => .normal
  | .exit id => .exit id
  | .ret => .ret

structure AR (σ : Sg) (st : St) (a : Act) (w : World) : Prop where
  tm : ∀ t v, st.tm.get t = some v → V σ v (a.tmps.getD t undef)
  lt : ∀ t v, st.tm.get t = some v → t < st.nt
  size : a.tmps.size = st.nt
  defers : a.defers = []
  mem : HR σ st.h w
  glob : ∀ g, g < 1000 → ∃ n, σ g = some (g, 0, n)

/-- What a piece of code makes of a state. -/
def Went (σ : Sg) (st : St) (w : World) (st' : St) (τ : Sg) (w' : World) : Prop := Stp σ st.h w τ st'.h w' ∧ Ext σ τ st.nx st'.nx

def CodeOK (P : Program) (c : Code) (st : St) (e : Ex) (st' : St) : Prop :=
  st.nx ≤ st'.nx ∧ ∀ (σ : Sg) (a : Act) (w : World) (Q : Exit → Act → World → Prop), AR σ st a w → Fresh σ st.nx st'.nx → 1000 ≤ st.nx →
    (∀ τ a' w', AR τ st' a' w' → Went σ st w st' τ w' → Q (exitOf e) a' w') → c.wp P Q a w

def CalOK (P : Program) (call : Callee) : Prop := ∀ f args h nx v h' nx', call f args h nx = some (v, h', nx') → (∃ fn, P.funcs[f]? = some fn ∧ fn.body.isSome = true) ∧ nx ≤ nx' ∧
  ∀ (σ : Sg) (w : World) (ys : List Value), HR σ h w → VL σ args ys → Fresh σ nx nx' → 1000 ≤ nx → (∀ g, g < 1000 → ∃ n, σ g = some (g, 0, n)) →
    Calls P f ⟨ys⟩ w fun e w' => ∃ y τ, e = .returned y ∧ V τ v y ∧ HR τ h' w' ∧ Stp σ h w τ h' w' ∧ Ext σ τ nx nx'

def OpsOK (P : Program) (ops : Array Oper) (l : List Nat) (st st' : St) : Prop :=
  st.nx ≤ st'.nx ∧ ∀ (σ : Sg) (a : Act) (w : World) (Q : Exit → Act → World → Prop), AR σ st a w → Fresh σ st.nx st'.nx → 1000 ≤ st.nx →
    (∀ τ a' w', AR τ st' a' w' → Went σ st w st' τ w' → Q .normal a' w') → wpOps P ops Q l a w

def DrawOK (P : Program) (draw : Draw) : Prop := ∀ ops st st', draw ops st = some st' →
  st.nx ≤ st'.nx ∧ ∀ (id : Nat) (σ : Sg) (a : Act) (w : World) (Q : Exit → Act → World → Prop), AR σ st a w → Fresh σ st.nx st'.nx → 1000 ≤ st.nx →
    (∀ τ a' w', AR τ st' a' w' → Went σ st w st' τ w' → Q .normal a' w') → (Code.region id ops true).wp P Q a w

section
variable {P : Program}

theorem rho_ok {σ : Sg} {st : St} {a : Act} {w : World} (x : AR σ st a w) : ∀ o v, st.rho o = some v → V σ v (a.eval o) := by
  intro o v hv
  cases o with
  | tmp t => exact x.tm t v hv
  | const c => exact ofV_ok hv
  | global g =>
    simp only [St.rho] at hv
    cases hb : Nat.blt g 1000 with
    | false => simp [hb] at hv
    | true =>
      simp only [hb, cond_true] at hv
      obtain rfl := Option.some.inj hv
      have : g < 1000 := by simpa [Nat.blt_eq] using hb
      obtain ⟨n, hn⟩ := x.glob g this
      exact ⟨g, 0, n, hn, rfl⟩
  | func f => simp only [St.rho] at hv; obtain rfl := Option.some.inj hv; exact ⟨[], [], rfl, rfl, rfl⟩

theorem heapSlice_ok {σ : Sg} {h h' : Hp} {nx nx' : Nat} {w : World} {ρ : Rho} {e : Operand → Value} {o : Oper} {v : AV} (x : HR σ h w) (hρ : ∀ o v, ρ o = some v → V σ v (e o)) (ha : heapSlice P ρ o h nx = some (v, h', nx')) :
    h' = h ∧ nx' = nx ∧ ∃ y, (execOp e o).run P w = .ok (.value y) w ∧ V σ v y := by
  obtain ⟨dst, op, ty, pos, af, gd⟩ := o
  unfold heapSlice at ha
  simp only at ha
  split at ha
  · rename_i t z lo hi
    split at ha
    · rename_i el id off len k a b ht hz hlo hhi
      split at ha
      · rename_i s l u cs hs hl hu hrow
        cases hb : (decide (0 ≤ l) && decide (l < u) && (Nat.beq s k && Nat.ble 1 s && Nat.ble (off + u.toNat * s) cs.length)) with
        | false => simp only [hb, cond_false] at ha; simp at ha
        | true =>
          simp only [hb, cond_true] at ha
          simp only [Option.some.injEq, Prod.mk.injEq] at ha
          obtain ⟨rfl, rfl, rfl⟩ := ha
          simp only [Bool.and_eq_true, decide_eq_true_eq] at hb
          obtain ⟨⟨h0, h1⟩, ⟨h2, h3⟩, h4⟩ := hb
          obtain rfl := Nat.eq_of_beq_eq_true h2
          have h3 := Nat.le_of_ble_eq_true h3
          have h4 := Nat.le_of_ble_eq_true h4
          obtain ⟨bb, q, n, g1, kc, hzv, g2, g3⟩ := hρ _ _ hz
          have hcs : q + cs.length ≤ n := by
            unfold row? at hrow
            split at hrow
            · rename_i cs' tyy opn md hg
              obtain rfl := Option.some.inj hrow
              obtain ⟨b', o', n', cells, fz, tv, e1, e2, e3, e4, _⟩ := x.has _ _ hg
              rw [g1] at e1; simp at e1; obtain ⟨rfl, rfl, rfl⟩ := e1
              exact e4
            · simp at hrow
          obtain ⟨l', rfl⟩ : ∃ l' : Nat, l = l' := ⟨l.toNat, by omega⟩
          obtain ⟨u', rfl⟩ : ∃ u' : Nat, u = u' := ⟨u.toNat, by omega⟩
          simp only [Int.toNat_natCast] at h4 ⊢
          have huk : u' ≤ kc := Nat.le_of_mul_le_mul_right (by omega : u' * s ≤ kc * s) (by omega)
          have hb1 : okB (l' : Int) u' kc kc = true := by
            simp only [okB, Bool.and_eq_true, decide_eq_true_eq]; omega
          have v1 := optO_ok hρ hlo
          have v2 := optO_ok hρ hhi
          have hr := run_bounds (P := P) (w := w) true (len := len) (cap := kc) (mx := none) (bndA_ok hl v1) (bndA_ok hu v2) rfl (.inl rfl) hb1
          have hmul : l' * s + (kc - l') * s = kc * s := by rw [← Nat.add_mul]; congr 1; omega
          have hsub : u' * s ≤ kc * s := Nat.mul_le_mul_right _ huk
          refine ⟨by trivial, by trivial, .slice (some ⟨bb, q + (off + l' * s), none⟩) (u' - l') (kc - l'), ?_, bb, q, n, g1, kc - l', rfl, by show u' - l' ≤ kc - l'; omega, by show q + (off + l' * s) + (kc - l') * s = n; omega⟩
          rw [show (execOp e ⟨dst, .slice t z lo hi none, ty, pos, af, gd⟩).run P w = _ from ex_val _]
          have hk : ¬ kc = l' := by omega
          simp [Instr.sliceAt, Instr.slice, run_under ht, hzv, hr, run_sizeOf hs, hk, addr_add, Nat.add_assoc]
      · simp at ha
    · simp at ha
  · simp at ha

theorem aStep_ok (hN : NoNum P) {call : Callee} (hcal : CalOK P call) {σ : Sg} {h h' : Hp} {nx nx' : Nat} {w : World} {ρ : Rho} {a : Act} {o : Oper} {v : AV} (x : HR σ h w) (hρ : ∀ o v, ρ o = some v → V σ v (a.eval o)) (hg : ∀ g, g < 1000 → ∃ n, σ g = some (g, 0, n)) (h1 : 1000 ≤ nx)
    (ha : aStep P call ρ o h nx = some (v, h', nx')) (hf : nx ≤ nx' → Fresh σ nx nx') :
    nx ≤ nx' ∧ ∀ (next : Act → World → Prop) (Q : Exit → Act → World → Prop), (∀ τ y w', V τ v y → HR τ h' w' → Stp σ h w τ h' w' → Ext σ τ nx nx' → next (a.put o.dst y) w') → o.wp P a w next Q := by
  unfold aStep at ha
  cases hout : aop P ρ o h nx with
  | none =>
    simp only [hout] at ha
    obtain ⟨rfl, rfl, y, hr, hv⟩ := heapSlice_ok x hρ ha
    refine ⟨Nat.le_refl _, fun next Q hn => ?_⟩
    simp only [Oper.wp, hr, Oper.upon_value]
    exact hn σ y w hv x (Stp.refl _ _ _) (Ext.refl _ _ _)
  | some out =>
    simp only [hout] at ha
    cases out with
    | val v0 h0 n0 =>
      simp at ha
      obtain ⟨rfl, rfl, rfl⟩ := ha
      have hle : nx ≤ n0 := by
        rcases Nat.lt_or_ge n0 nx with hlt | hge
        · exact (aop_ok hN x hρ hout (fun id p q => absurd q (by simp [Out.nx]; omega))).1
        · exact hge
      obtain ⟨_, y, w', τ, hr, k⟩ := aop_ok hN x hρ hout (hf hle)
      refine ⟨hle, fun next Q hn => ?_⟩
      simp only [Oper.wp, hr, Oper.upon_value]
      exact hn τ y w' k.1 k.2.1 k.2.2.1 k.2.2.2
    | skip h0 n0 =>
      simp at ha
      obtain ⟨rfl, rfl, rfl⟩ := ha
      have hle : nx ≤ n0 := by
        rcases Nat.lt_or_ge n0 nx with hlt | hge
        · exact (aop_ok hN x hρ hout (fun id p q => absurd q (by simp [Out.nx]; omega))).1
        · exact hge
      obtain ⟨_, w', τ, hr, k⟩ := aop_ok hN x hρ hout (hf hle)
      refine ⟨hle, fun next Q hn => ?_⟩
      simp only [Oper.wp, hr, Oper.upon_skip]
      exact hn τ undef w' ⟨[], rfl, rfl⟩ k.1 k.2.1 k.2.2
    | enter f args =>
      simp only at ha
      obtain ⟨hfn, hle, hc⟩ := hcal _ _ _ _ _ _ _ ha
      obtain ⟨_, hk⟩ := aop_ok hN x hρ hout (fun id p q => absurd q (by simp [Out.nx]; omega))
      obtain ⟨ys, hr, hv⟩ := hk hfn
      refine ⟨hle, fun next Q hn => ?_⟩
      simp only [Oper.wp, hr, Oper.upon_enter]
      refine (hc σ w ys x hv (hf hle) h1 hg).mono ?_
      rintro e w' ⟨y, τ, rfl, k⟩
      exact hn τ y w' k.1 k.2.1 k.2.2.1 k.2.2.2

theorem put_ok {σ τ : Sg} {st st' : St} {a : Act} {w w' : World} (x : AR σ st a w) {h : Hp} {nx : Nat} {d : Option Tmp} {v : AV} {y : Value} (hp : (st.mem h nx).put d v = some st') (hle : Le σ τ) (hv : V τ v y) (hm : HR τ h w') :
    AR τ st' (a.put d y) w' ∧ st'.h = h ∧ st'.nx = nx := by
  have hg : ∀ g, g < 1000 → ∃ n, τ g = some (g, 0, n) := fun g hg => let ⟨n, hn⟩ := x.glob g hg; ⟨n, hle _ _ hn⟩
  cases d with
  | none =>
    simp only [St.put] at hp
    obtain rfl := Option.some.inj hp
    exact ⟨⟨fun t u hu => V.mono hle _ _ (x.tm t u hu), x.lt, x.size, x.defers, hm, hg⟩, rfl, rfl⟩
  | some d =>
    simp only [St.put] at hp
    cases hb : Nat.blt d (st.mem h nx).nt with
    | false => simp [hb] at hp
    | true =>
      simp only [hb, cond_true] at hp
      obtain rfl := Option.some.inj hp
      have hlt : d < a.tmps.size := by rw [x.size]; simpa [Nat.blt_eq, St.mem] using hb
      refine ⟨⟨fun t u hu => ?_, fun t u hu => ?_, by simp [Act.put, x.size, St.mem], x.defers, hm, hg⟩, rfl, rfl⟩
      case refine_2 =>
        rcases Tr.get_set _ _ _ _ _ _ hu with ⟨rfl, e⟩ | ⟨hne, hu⟩
        · rw [x.size] at hlt; exact hlt
        · exact x.lt t u hu
      rcases Tr.get_set _ _ _ _ _ _ hu with ⟨rfl, e⟩ | ⟨hne, hu⟩
      · obtain rfl := Option.some.inj e
        simpa [Act.put, Array.getD, hlt] using hv
      · have := V.mono hle _ _ (x.tm t u hu)
        simpa [Act.put, Array.getElem?_setIfInBounds_ne (Ne.symm hne)] using this

theorem wantedR_ok {ops : Array Oper} {o : Oper} {look : Nat → Option AV} {σ : Sg} {a : Act} {b : Bool} (hl : ∀ t v, look t = some v → V σ v (a.tmps.getD t undef)) (hsz : ∀ t v, look t = some v → t < a.tmps.size) (hw : wantedR ops o look = some b) :
    Region.wanted o (yielded ops a.tmps) = b := by
  unfold wantedR at hw
  unfold Region.wanted
  split at hw
  · rename_i hg; simp at hw; subst hw; simp [hg]
  · rename_i j want hg
    simp only [hg]
    split at hw
    · rename_i d hd
      split at hw
      · rename_i c hc
        simp at hw; subst hw
        have h1 := hl _ _ hc
        have h2 := hsz _ _ hc
        simp only [V] at h1
        simp [Array.getD, h2] at h1
        simp [yielded, hd, h2, h1]
      · rename_i hc
        simp at hw; subst hw
        obtain ⟨l', e1, h1⟩ := hl _ _ hc
        have h2 := hsz _ _ hc
        simp [Array.getD, h2] at h1
        simp [yielded, hd, h2, h1]
      · simp at hw
    · simp at hw

theorem put_mem {st st' : St} {d : Option Tmp} {v : AV} (hp : st.put d v = some st') : st'.h = st.h ∧ st'.nx = st.nx := by
  cases d with
  | none => simp only [St.put] at hp; obtain rfl := Option.some.inj hp; exact ⟨rfl, rfl⟩
  | some d =>
    simp only [St.put] at hp
    cases hb : Nat.blt d st.nt with
    | false => simp [hb] at hp
    | true => simp only [hb, cond_true] at hp; obtain rfl := Option.some.inj hp; exact ⟨rfl, rfl⟩

theorem valO_le {o : Option AV} {h : Hp} {nx : Nat} {out : Out} (hv : valO o h nx = some out) : nx ≤ out.nx nx := by
  unfold valO at hv
  split at hv
  · simp at hv; subst hv; exact Nat.le_refl _
  · simp at hv
theorem ground_le {ρ : Rho} {o : Oper} {h : Hp} {nx : Nat} {out : Out} (hv : ground P ρ o h nx = some out) : nx ≤ out.nx nx := by
  unfold ground at hv
  simp only [Bool.cond_eq_ite] at hv
  repeat' split at hv
  all_goals first
    | (simp at hv; done)
    | (obtain rfl := Option.some.inj hv; simp [Out.nx])
theorem appendTo_le {h : Hp} {nx e size n : Nat} {new : List AV} {s : AV} {out : Out} (hv : appendTo h nx e size n new s = some out) : nx ≤ out.nx nx := by
  unfold appendTo at hv
  simp only [Bool.cond_eq_ite] at hv
  repeat' split at hv
  all_goals first
    | (simp at hv; done)
    | (obtain rfl := Option.some.inj hv; simp [Out.nx])
theorem append_le {at' : Array TypeId} {s x : AV} {h : Hp} {nx : Nat} {out : Out} (hv : appendCase P at' s x h nx = some out) : nx ≤ out.nx nx := by
  unfold appendCase at hv
  simp only [Bool.cond_eq_ite] at hv
  repeat' split at hv
  all_goals first
    | (simp at hv; done)
    | exact appendTo_le hv
theorem copy_le {at' : Array TypeId} {s x : AV} {h : Hp} {nx : Nat} {out : Out} (hv : copyCase P at' s x h nx = some out) : nx ≤ out.nx nx := by
  unfold copyCase at hv
  repeat' split at hv
  all_goals first
    | (simp at hv; done)
    | (obtain rfl := Option.some.inj hv; simp [Out.nx])
theorem callee_le {f : AV} {args : List AV} {nx : Nat} {out : Out} (hv : calleeCase P f args = some out) : nx ≤ out.nx nx := by
  unfold calleeCase at hv
  simp only [Bool.cond_eq_ite] at hv
  repeat' split at hv
  all_goals first
    | (simp at hv; done)
    | (obtain rfl := Option.some.inj hv; simp [Out.nx])
theorem clear_le {at' : Array TypeId} {x : AV} {h : Hp} {nx : Nat} {out : Out} (hv : clearCase P at' x h nx = some out) : nx ≤ out.nx nx := by
  unfold clearCase at hv
  simp only [Bool.cond_eq_ite] at hv
  repeat' split at hv
  all_goals first
    | (simp at hv; done)
    | (obtain rfl := Option.some.inj hv; simp [Out.nx]; done)
theorem builtin_le {ρ : Rho} {b : Builtin} {c : Call} {o : Oper} {args : List AV} {h : Hp} {nx : Nat} {out : Out} (hv : builtinCase P ρ b c o args h nx = some out) : nx ≤ out.nx nx := by
  unfold builtinCase at hv
  repeat' split at hv
  all_goals first
    | (simp at hv; done)
    | (obtain rfl := Option.some.inj hv; simp [Out.nx]; done)
    | exact append_le hv
    | exact copy_le hv
    | exact clear_le hv
    | exact ground_le hv
theorem call_le {ρ : Rho} {c : Call} {o : Oper} {h : Hp} {nx : Nat} {out : Out} (hv : callCase P ρ c o h nx = some out) : nx ≤ out.nx nx := by
  unfold callCase at hv
  repeat' split at hv
  all_goals first
    | (simp at hv; done)
    | (obtain rfl := Option.some.inj hv; simp [Out.nx]; done)
    | exact callee_le hv
    | exact builtin_le hv
theorem conv_le {ρ : Rho} {o : Oper} {s d : TypeId} {x : AV} {h : Hp} {nx : Nat} {out : Out} (hv : convCase P ρ o s d x h nx = some out) : nx ≤ out.nx nx := by
  unfold convCase at hv
  simp only [Bool.cond_eq_ite] at hv
  repeat' split at hv
  all_goals first
    | (simp at hv; done)
    | (obtain rfl := Option.some.inj hv; simp [Out.nx]; done)
    | exact ground_le hv
theorem make_le {t : TypeId} {l c : AV} {h : Hp} {nx : Nat} {out : Out} (hv : makeSliceCase P t l c h nx = some out) : nx ≤ out.nx nx := by
  unfold makeSliceCase at hv
  simp only [Bool.cond_eq_ite] at hv
  repeat' split at hv
  all_goals first
    | (simp at hv; done)
    | (obtain rfl := Option.some.inj hv; simp [Out.nx]; done)
theorem slice_le {t : TypeId} {x : AV} {lo hi mx : Option AV} {h : Hp} {nx : Nat} {out : Out} (hv : sliceCase P t x lo hi mx h nx = some out) : nx ≤ out.nx nx := by
  unfold sliceCase at hv
  simp only [Bool.cond_eq_ite] at hv
  repeat' split at hv
  all_goals first
    | (simp at hv; done)
    | (obtain rfl := Option.some.inj hv; simp [Out.nx]; done)
theorem index_le {t : TypeId} {x i : AV} {h : Hp} {nx : Nat} {out : Out} (hv : indexAddrCase P t x i h nx = some out) : nx ≤ out.nx nx := by
  unfold indexAddrCase at hv
  simp only [Bool.cond_eq_ite] at hv
  repeat' split at hv
  all_goals first
    | (simp at hv; done)
    | (obtain rfl := Option.some.inj hv; simp [Out.nx]; done)
theorem assert_le {t : TypeId} {x : AV} {ok : Bool} {h : Hp} {nx : Nat} {out : Out} (hv : assertCase P x t ok h nx = some out) : nx ≤ out.nx nx := by
  unfold assertCase at hv
  simp only [Bool.cond_eq_ite] at hv
  repeat' split at hv
  all_goals first
    | (simp at hv; done)
    | (obtain rfl := Option.some.inj hv; simp [Out.nx]; done)
    | (simp at hv; obtain ⟨_, _, rfl⟩ := hv; simp [Out.nx]; done)
theorem lookup_le {t : TypeId} {x k : AV} {ok : Bool} {h : Hp} {nx : Nat} {out : Out} (hv : lookupCase P t x k ok h nx = some out) : nx ≤ out.nx nx := by
  unfold lookupCase at hv
  repeat' split at hv
  all_goals first
    | (simp at hv; done)
    | (obtain rfl := Option.some.inj hv; simp [Out.nx]; done)
theorem update_le {t : TypeId} {m k z : AV} {h : Hp} {nx : Nat} {out : Out} (hv : mapUpdateCase P t m k z h nx = some out) : nx ≤ out.nx nx := by
  unfold mapUpdateCase at hv
  simp only [Bool.cond_eq_ite] at hv
  repeat' split at hv
  all_goals first
    | (simp at hv; done)
    | (obtain rfl := Option.some.inj hv; simp [Out.nx]; done)
theorem aop_le {ρ : Rho} {o : Oper} {h : Hp} {nx : Nat} {out : Out} (hv : aop P ρ o h nx = some out) : nx ≤ out.nx nx := by
  obtain ⟨dst, op, ty, pos, af, gd⟩ := o
  unfold aop at hv
  simp only [Bool.cond_eq_ite] at hv
  cases op <;> (try simp only at hv)
  all_goals (repeat' split at hv)
  all_goals first
    | (simp at hv; done)
    | exact valO_le hv
    | exact ground_le hv
    | exact conv_le hv
    | exact make_le hv
    | exact slice_le hv
    | exact index_le hv
    | exact assert_le hv
    | exact lookup_le hv
    | exact update_le hv
    | exact call_le hv
    | (obtain rfl := Option.some.inj hv; simp [Out.nx]; done)
    | (simp at hv; subst hv; rename_i hg; exact ground_le hg)

theorem aOper_ok (hN : NoNum P) {call : Callee} (hcal : CalOK P call) {ops : Array Oper} {i : Nat} {o : Oper} (ho : ops[i]? = some o) {st st' : St} (ha : aOper P call ops o st = some st') :
    st.nx ≤ st'.nx ∧ ∀ (σ : Sg) (a : Act) (w : World) (K : Act → World → Prop) (Q : Exit → Act → World → Prop), AR σ st a w → Fresh σ st.nx st'.nx → 1000 ≤ st.nx →
      (∀ τ a' w', AR τ st' a' w' → Went σ st w st' τ w' → K a' w') → wpOp P ops Q i K a w := by
  unfold aOper at ha
  cases hw : wantedR ops o st.tm.get with
  | none => simp [hw] at ha
  | some b =>
    cases b with
    | false =>
      simp only [hw] at ha
      have hnx : st'.nx = st.nx ∧ st'.h = st.h := (put_mem ha).symm
      refine ⟨by omega, fun σ a w K Q x hf h1 hK => ?_⟩
      have hwt := wantedR_ok (ops := ops) (o := o) x.tm (fun t v hv => by rw [x.size]; exact x.lt t v hv) hw
      simp only [wpOp, ho, hwt]
      obtain ⟨y, y1, y2⟩ := put_ok x (h := st.h) (nx := st.nx) (y := undef) ha (Le.refl σ) ⟨[], rfl, rfl⟩ x.mem
      refine hK σ _ w y ⟨?_, fun id hid => rfl⟩
      rw [hnx.2]; exact Stp.refl _ _ _
    | true =>
      simp only [hw] at ha
      cases hs : aStep P call st.rho o st.h st.nx with
      | none => simp [hs] at ha
      | some r =>
        obtain ⟨v, h, nx⟩ := r
        simp only [hs] at ha
        have hmem : st'.h = h ∧ st'.nx = nx := put_mem ha
        have hle : st.nx ≤ nx := by
          unfold aStep at hs
          cases hout : aop P st.rho o st.h st.nx with
          | none =>
            simp only [hout] at hs
            unfold heapSlice at hs
            simp only [Bool.cond_eq_ite] at hs
            repeat' split at hs
            all_goals first
              | (simp at hs; done)
              | (simp at hs; obtain ⟨_, _, rfl⟩ := hs; exact Nat.le_refl _)
          | some out =>
            simp only [hout] at hs
            cases out with
            | val v0 h0 n0 => simp at hs; obtain ⟨_, _, rfl⟩ := hs; exact aop_le hout
            | skip h0 n0 => simp at hs; obtain ⟨_, _, rfl⟩ := hs; exact aop_le hout
            | enter f args => exact (hcal _ _ _ _ _ _ _ hs).2.1
        refine ⟨by omega, fun σ a w K Q x hf h1 hK => ?_⟩
        have hwt := wantedR_ok (ops := ops) (o := o) x.tm (fun t v hv => by rw [x.size]; exact x.lt t v hv) hw
        simp only [wpOp, ho, hwt]
        refine .inl ?_
        rw [hmem.2] at hf
        obtain ⟨_, hk⟩ := aStep_ok hN hcal x.mem (rho_ok x) x.glob h1 hs (fun _ => hf)
        refine hk K Q fun τ y w' hv hm hst hex => ?_
        obtain ⟨z, z1, z2⟩ := put_ok x ha (hex.le hf) hv hm
        exact hK τ _ w' z ⟨by rw [z1]; exact hst, by rw [z2]; exact hex⟩

theorem aOps_ok (hN : NoNum P) {call : Callee} (hcal : CalOK P call) {ops : Array Oper} : ∀ (l : List Oper) (k : Nat) (st st' : St), ops.toList.drop k = l → aOps P call ops l st = some st' → OpsOK P ops (List.range' k l.length) st st'
  | [], k, st, st', hl, ha => by
    simp only [aOps] at ha
    obtain rfl := Option.some.inj ha
    exact ⟨Nat.le_refl _, fun σ a w Q x _ _ hQ => by simpa [wpOps] using hQ σ a w x ⟨Stp.refl _ _ _, Ext.refl _ _ _⟩⟩
  | o :: l, k, st, st', hl, ha => by
    simp only [aOps] at ha
    cases h1 : aOper P call ops o st with
    | none => simp [h1] at ha
    | some s1 =>
      simp only [h1] at ha
      have ho : ops[k]? = some o := by
        have := congrArg (·[0]?) hl
        simpa [List.getElem?_drop] using this
      obtain ⟨l1, k1⟩ := aOper_ok hN hcal ho h1
      obtain ⟨l2, k2⟩ := aOps_ok hN hcal l (k + 1) s1 st' (by rw [← List.drop_drop, hl]; rfl) ha
      refine ⟨Nat.le_trans l1 l2, fun σ a w Q x hf hge hQ => ?_⟩
      rw [List.length_cons, List.range'_succ, wpOps_cons]
      refine k1 σ a w _ Q x (hf.sub (Nat.le_refl _) l2) hge fun τ a' w' x' hw => ?_
      refine k2 τ a' w' Q x' (hf.ext hw.2 l1) (by omega) fun ρ a'' w'' x'' hw' => ?_
      exact hQ ρ a'' w'' x'' ⟨hw.1.trans hw'.1, hw.2.trans hw'.2 l1 l2⟩

/-- Code in a loop, behind a round. -/
def InLoop (P : Program) (c : Code) (Q : Exit → Act → World → Prop) (a : Act) (w : World) : Prop :=
  ∀ (b : Frame) (k : List Item) (cs : List Frame), ∃ e a' w', Q e a' w' ∧ Arrives P (lone (b.at a (.inLoop c :: k)) cs w) b k cs e a' w'

theorem round {c : Code} {Q : Exit → Act → World → Prop} {a : Act} {w : World} (h : c.wp P (Exit.then (InLoop P c Q) Q) a w) (b : Frame) (k : List Item) (cs : List Frame) :
    ∃ e a' w', Q e a' w' ∧ Arrives P (lone (b.at a (.code c :: .inLoop c :: k)) cs w) b k cs e a' w' := by
  obtain ⟨e, a₁, w₁, hq, harr⟩ := h b (.inLoop c :: k) cs
  cases e with
  | normal =>
    obtain ⟨e₂, a₂, w₂, hq₂, harr₂⟩ := hq b k cs
    exact ⟨e₂, a₂, w₂, hq₂, .of_steps harr harr₂⟩
  | exit id => exact ⟨_, a₁, w₁, hq, .pass (x := .inLoop c) rfl (fun _ _ => .inl (by simp)) harr⟩
  | goto l => exact ⟨_, a₁, w₁, hq, .pass (x := .inLoop c) rfl (fun _ _ => .inl (by simp)) harr⟩
  | ret => exact ⟨_, a₁, w₁, hq, .pass (x := .inLoop c) rfl (fun _ _ => .inl (by simp)) harr⟩
  | panic ch => exact ⟨_, a₁, w₁, hq, .pass (x := .inLoop c) rfl (fun _ _ => .inl (by simp)) harr⟩
  | outgrown => exact ⟨_, a₁, w₁, hq, .pass (x := .inLoop c) rfl (fun _ _ => .inl (by simp)) harr⟩

theorem InLoop.of {c : Code} {Q : Exit → Act → World → Prop} {a : Act} {w : World} (h : c.wp P (Exit.then (InLoop P c Q) Q) a w) : InLoop P c Q a w := fun b k cs =>
  let ⟨e, a', w', hq, harr⟩ := round h b k cs
  ⟨e, a', w', hq, .of_steps (.one step_inLoop) harr⟩

theorem wp_loop_of {c : Code} {Q : Exit → Act → World → Prop} {a : Act} {w : World} (h : c.wp P (Exit.then (InLoop P c Q) Q) a w) : (Code.loop c).wp P Q a w := fun b k cs =>
  let ⟨e, a', w', hq, harr⟩ := round h b k cs
  ⟨e, a', w', hq, .of_steps (.one step_loop) harr⟩

theorem then_exit {K : Act → World → Prop} {Q : Exit → Act → World → Prop} {e : Ex} {a : Act} {w : World} (he : e ≠ .normal) (h : Q (exitOf e) a w) : Exit.then K Q (exitOf e) a w := by
  cases e with
  | normal => exact absurd rfl he
  | exit id => exact h
  | ret => exact h

/-- The rounds of a loop. -/
theorem aLoop_ok {c : Code} {f : St → Option (Ex × St)} (hf : ∀ st e st', f st = some (e, st') → CodeOK P c st e st') : ∀ (n : Nat) (st : St) (e : Ex) (st' : St), aLoop f n st = some (e, st') →
    st.nx ≤ st'.nx ∧ ∀ (σ : Sg) (a : Act) (w : World) (Q : Exit → Act → World → Prop), AR σ st a w → Fresh σ st.nx st'.nx → 1000 ≤ st.nx →
      (∀ τ a' w', AR τ st' a' w' → Went σ st w st' τ w' → Q (exitOf e) a' w') → c.wp P (Exit.then (InLoop P c Q) Q) a w
  | 0, st, e, st', ha => by simp [aLoop] at ha
  | n + 1, st, e, st', ha => by
    simp only [aLoop] at ha
    cases h1 : f st with
    | none => simp [h1] at ha
    | some r =>
      obtain ⟨e1, s1⟩ := r
      obtain ⟨l1, k1⟩ := hf _ _ _ h1
      cases e1 with
      | normal =>
        simp only [h1] at ha
        obtain ⟨l2, k2⟩ := aLoop_ok hf n s1 e st' ha
        refine ⟨Nat.le_trans l1 l2, fun σ a w Q x hfr hge hQ => ?_⟩
        refine k1 σ a w _ x (hfr.sub (Nat.le_refl _) l2) hge fun τ a' w' x' hw => ?_
        refine InLoop.of (k2 τ a' w' Q x' (hfr.ext hw.2 l1) (by omega) fun ρ a'' w'' x'' hw' => ?_)
        exact hQ ρ a'' w'' x'' ⟨hw.1.trans hw'.1, hw.2.trans hw'.2 l1 l2⟩
      | exit id =>
        simp only [h1] at ha
        simp at ha
        obtain ⟨rfl, rfl⟩ := ha
        exact ⟨l1, fun σ a w Q x hfr hge hQ => k1 σ a w _ x hfr hge fun τ a' w' x' hw => then_exit (by simp) (hQ τ a' w' x' hw)⟩
      | ret =>
        simp only [h1] at ha
        simp at ha
        obtain ⟨rfl, rfl⟩ := ha
        exact ⟨l1, fun σ a w Q x hfr hge hQ => k1 σ a w _ x hfr hge fun τ a' w' x' hw => then_exit (by simp) (hQ τ a' w' x' hw)⟩

theorem aCode_ok (hN : NoNum P) {call : Callee} (hcal : CalOK P call) {draw : Draw} (hdraw : DrawOK P draw) : ∀ (c : Code) (st : St) (e : Ex) (st' : St), aCode P call draw c st = some (e, st') → CodeOK P c st e st' := by
  intro c
  induction c with
  | skip =>
    intro st e st' ha
    simp only [aCode] at ha; simp at ha; obtain ⟨rfl, rfl⟩ := ha
    exact ⟨Nat.le_refl _, fun σ a w Q x _ _ hQ => wp_skip (hQ σ a w x ⟨Stp.refl _ _ _, Ext.refl _ _ _⟩)⟩
  | label l =>
    intro st e st' ha
    simp only [aCode] at ha; simp at ha; obtain ⟨rfl, rfl⟩ := ha
    exact ⟨Nat.le_refl _, fun σ a w Q x _ _ hQ => wp_label (hQ σ a w x ⟨Stp.refl _ _ _, Ext.refl _ _ _⟩)⟩
  | ret =>
    intro st e st' ha
    simp only [aCode] at ha; simp at ha; obtain ⟨rfl, rfl⟩ := ha
    exact ⟨Nat.le_refl _, fun σ a w Q x _ _ hQ => wp_ret (hQ σ a w x ⟨Stp.refl _ _ _, Ext.refl _ _ _⟩)⟩
  | exit id =>
    intro st e st' ha
    simp only [aCode] at ha; simp at ha; obtain ⟨rfl, rfl⟩ := ha
    exact ⟨Nat.le_refl _, fun σ a w Q x _ _ hQ => wp_exit (hQ σ a w x ⟨Stp.refl _ _ _, Ext.refl _ _ _⟩)⟩
  | region id ops d =>
    intro st e st' ha
    cases d with
    | false =>
      simp only [aCode] at ha
      cases h1 : aOps P call ops ops.toList st with
      | none => simp [h1] at ha
      | some s1 =>
        simp [h1] at ha; obtain ⟨rfl, rfl⟩ := ha
        obtain ⟨l1, k1⟩ := aOps_ok hN hcal ops.toList 0 st s1 rfl h1
        refine ⟨l1, fun σ a w Q x hf hge hQ => wp_region ?_⟩
        rw [List.range_eq_range', ← Array.length_toList]
        exact k1 σ a w Q x hf hge hQ
    | true =>
      simp only [aCode] at ha
      cases h1 : draw ops st with
      | none => simp [h1] at ha
      | some s1 =>
        simp [h1] at ha; obtain ⟨rfl, rfl⟩ := ha
        obtain ⟨l1, k1⟩ := hdraw ops st s1 h1
        exact ⟨l1, fun σ a w Q x hf hge hQ => k1 id σ a w Q x hf hge hQ⟩
  | seq c d ihc ihd =>
    intro st e st' ha
    simp only [aCode] at ha
    cases h1 : aCode P call draw c st with
    | none => simp [h1] at ha
    | some r =>
      obtain ⟨e1, s1⟩ := r
      obtain ⟨l1, k1⟩ := ihc _ _ _ h1
      cases e1 with
      | normal =>
        simp only [h1] at ha
        obtain ⟨l2, k2⟩ := ihd _ _ _ ha
        refine ⟨Nat.le_trans l1 l2, fun σ a w Q x hfr hge hQ => wp_seq ?_⟩
        refine k1 σ a w _ x (hfr.sub (Nat.le_refl _) l2) hge fun τ a' w' x' hw => ?_
        refine k2 τ a' w' Q x' (hfr.ext hw.2 l1) (by omega) fun ρ a'' w'' x'' hw' => ?_
        exact hQ ρ a'' w'' x'' ⟨hw.1.trans hw'.1, hw.2.trans hw'.2 l1 l2⟩
      | exit id =>
        simp [h1] at ha; obtain ⟨rfl, rfl⟩ := ha
        exact ⟨l1, fun σ a w Q x hfr hge hQ => wp_seq (k1 σ a w _ x hfr hge fun τ a' w' x' hw => then_exit (by simp) (hQ τ a' w' x' hw))⟩
      | ret =>
        simp [h1] at ha; obtain ⟨rfl, rfl⟩ := ha
        exact ⟨l1, fun σ a w Q x hfr hge hQ => wp_seq (k1 σ a w _ x hfr hge fun τ a' w' x' hw => then_exit (by simp) (hQ τ a' w' x' hw))⟩
  | cond z c d ihc ihd =>
    intro st e st' ha
    simp only [aCode] at ha
    split at ha
    · rename_i hz
      obtain ⟨l1, k1⟩ := ihc _ _ _ ha
      exact ⟨l1, fun σ a w Q x hf hge hQ => wp_cond_true (rho_ok x _ _ hz) (k1 σ a w Q x hf hge hQ)⟩
    · rename_i hz
      obtain ⟨l1, k1⟩ := ihd _ _ _ ha
      exact ⟨l1, fun σ a w Q x hf hge hQ => wp_cond_false (rho_ok x _ _ hz) (k1 σ a w Q x hf hge hQ)⟩
    · simp at ha
  | block id c ih =>
    intro st e st' ha
    simp only [aCode] at ha
    cases h1 : aCode P call draw c st with
    | none => simp [h1] at ha
    | some r =>
      obtain ⟨e1, s1⟩ := r
      obtain ⟨l1, k1⟩ := ih _ _ _ h1
      cases e1 with
      | normal =>
        simp [h1] at ha; obtain ⟨rfl, rfl⟩ := ha
        exact ⟨l1, fun σ a w Q x hfr hge hQ => wp_block (k1 σ a w _ x hfr hge hQ)⟩
      | exit j =>
        simp only [h1] at ha
        cases hb : Nat.beq j id with
        | true =>
          obtain rfl := Nat.eq_of_beq_eq_true hb
          simp [hb] at ha; obtain ⟨rfl, rfl⟩ := ha
          exact ⟨l1, fun σ a w Q x hfr hge hQ => wp_block (k1 σ a w _ x hfr hge fun τ a' w' x' hw => by simpa [Exit.inBlock, exitOf] using hQ τ a' w' x' hw)⟩
        | false =>
          have hne := Nat.ne_of_beq_eq_false hb
          simp [hb] at ha; obtain ⟨rfl, rfl⟩ := ha
          exact ⟨l1, fun σ a w Q x hfr hge hQ => wp_block (k1 σ a w _ x hfr hge fun τ a' w' x' hw => by simpa [Exit.inBlock, exitOf, hne] using hQ τ a' w' x' hw)⟩
      | ret =>
        simp [h1] at ha; obtain ⟨rfl, rfl⟩ := ha
        exact ⟨l1, fun σ a w Q x hfr hge hQ => wp_block (k1 σ a w _ x hfr hge hQ)⟩
  | loop c ih =>
    intro st e st' ha
    simp only [aCode] at ha
    obtain ⟨l1, k1⟩ := aLoop_ok ih _ _ _ _ ha
    exact ⟨l1, fun σ a w Q x hfr hge hQ => wp_loop_of (k1 σ a w Q x hfr hge hQ)⟩
  | scope c ih =>
    intro st e st' ha
    simp only [aCode] at ha
    obtain ⟨l1, k1⟩ := ih _ _ _ ha
    refine ⟨l1, fun σ a w Q x hfr hge hQ => wp_scope_straight (k1 σ a w _ x hfr hge fun τ a' w' x' hw => ?_)⟩
    have := hQ τ a' w' x' hw
    cases e <;> exact this
  | rangeFunc f ps as b => intro st e st' ha; simp [aCode] at ha
  | goto l => intro st e st' ha; simp [aCode] at ha
  | refuse y => intro st e st' ha; simp [aCode] at ha
end
end
end Go.Proofs.YtgihpgdjkanodaaGreatDoor.Ev

namespace Go.Proofs.YtgihpgdjkanodaaGreatDoor.Ev
noncomputable section
open Go Go.RowKit

def params : List AV → Nat → Tr AV → Tr AV
  | [], _, t => t
  | a :: l, i, t => params l (i + 1) (t.set fuelT i (some a))

def resultsA (P : Program) (st : St) : List ResultVar → Option (List AV)
  | [] => some []
  | .tmp t :: l => match st.tm.get t, resultsA P st l with
    | some v, some r => some (v :: r)
    | _, _ => none
  | .cell a t :: l => match st.tm.get a with
    | some (.ptr id off) => match loadV P st.h t id off, resultsA P st l with
      | some v, some r => some (v :: r)
      | _, _ => none
    | _ => none

def oneA : List AV → AV
  | [v] => v
  | l => .tup l

def aCall (P : Program) (draw : Callee → Draw) : Nat → Callee
  | 0, _, _, _, _ => none
  | n + 1, f, args, h, nx => match P.funcs[f]? with
    | none => none
    | some fn => match fn.body with
      | none => none
      | some body => bif Nat.ble args.length fn.ntmps then
        match aCode P (aCall P draw n) (draw (aCall P draw n)) body ⟨params args 0 .leaf, fn.ntmps, h, nx⟩ with
        | some (.normal, st) => match resultsA P st fn.results.toList with
          | some l => some (oneA l, st.h, st.nx)
          | none => none
        | some (.ret, st) => match resultsA P st fn.results.toList with
          | some l => some (oneA l, st.h, st.nx)
          | none => none
        | _ => none
        else none

theorem params_get : ∀ (l : List AV) (i : Nat) (t : Tr AV) (k : Nat) (v : AV), (params l i t).get k = some v → (i ≤ k ∧ k < i + l.length ∧ l[k - i]? = some v) ∨ ((k < i ∨ i + l.length ≤ k) ∧ t.get k = some v)
  | [], i, t, k, v, h => .inr ⟨by simp; omega, h⟩
  | a :: l, i, t, k, v, h => by
    simp only [params] at h
    rcases params_get l (i + 1) _ k v h with ⟨h1, h2, h3⟩ | ⟨h1, h2⟩
    · refine .inl ⟨by omega, by simp; omega, ?_⟩
      obtain ⟨d, rfl⟩ : ∃ d, k = i + 1 + d := ⟨k - (i + 1), by omega⟩
      rw [show i + 1 + d - (i + 1) = d by omega] at h3
      rw [show i + 1 + d - i = d + 1 by omega]
      simpa using h3
    · rcases Tr.get_set _ _ _ _ _ _ h2 with ⟨rfl, e⟩ | ⟨hne, h2⟩
      · obtain rfl := Option.some.inj e
        exact .inl ⟨Nat.le_refl _, by simp, by simp⟩
      · exact .inr ⟨by simp; omega, h2⟩

theorem results_ok {P : Program} {σ : Sg} {st : St} {a : Act} {w : World} (x : AR σ st a w) {g : ResultVar → Sem Value} (g1 : ∀ t, g (.tmp t) = pure (a.tmps.getD t undef)) (g2 : ∀ c t, g (.cell c t) = (do loadVar t (← asAddr (a.tmps.getD c undef)))) : ∀ (l : List ResultVar) (r : List AV), resultsA P st l = some r →
    ∃ ys, (l.mapM g).run P w = .ok ys w ∧ VL σ r ys
  | [], r, h => by simp [resultsA] at h; subst h; exact ⟨[], by simp, rfl⟩
  | .tmp t :: l, r, h => by
    simp only [resultsA] at h
    split at h
    · rename_i v r' hv hr
      simp at h; subst h
      obtain ⟨ys, h1, h2⟩ := results_ok x g1 g2 l r' hr
      refine ⟨_ :: ys, ?_, VL.cons (x.tm t v hv) h2⟩
      simp only [List.mapM_cons, g1, Sem.run_bind, Sem.run_pure, Result.andThen_ok, h1]
    · simp at h
  | .cell c t :: l, r, h => by
    simp only [resultsA] at h
    split at h
    · rename_i id off hp
      split at h
      · rename_i v r' hv hr
        simp at h; subst h
        obtain ⟨ys, h1, h2⟩ := results_ok x g1 g2 l r' hr
        obtain ⟨b, o, m, q1, hpv⟩ := x.tm _ _ hp
        obtain ⟨b', o', m', y, k1, k2, k3⟩ := loadV_ok x.mem hv
        rw [q1] at k1; simp at k1; obtain ⟨rfl, rfl, rfl⟩ := k1
        refine ⟨y :: ys, ?_, VL.cons k3 h2⟩
        have has : (asAddr (a.tmps.getD c undef)).run P w = .ok ⟨b, o + off, none⟩ w := by rw [hpv]; rfl
        simp only [List.mapM_cons, g2, Sem.run_bind, has, Sem.run_pure, Result.andThen_ok, k2, h1]
      · simp at h
    · simp at h

theorem one_ok {σ : Sg} {r : List AV} {ys : List Value} (h : VL σ r ys) : V σ (oneA r) (if h : (⟨ys⟩ : Array Value).size = 1 then (⟨ys⟩ : Array Value)[0] else .tuple ⟨ys⟩) := by
  match r, h with
  | [], h => obtain rfl := h; exact ⟨[], rfl, rfl⟩
  | [a], ⟨y, l, e, p, q⟩ =>
    obtain rfl := q; subst e
    exact p
  | a :: b :: l, ⟨y, l', e, p, y2, l2, e2, q, q2⟩ =>
    subst e; subst e2
    rw [dif_neg (by simp)]
    exact ⟨_, VL.cons p (VL.cons q q2), rfl⟩

theorem aCall_ok {P : Program} (hN : NoNum P) {draw : Callee → Draw} (hdraw : ∀ call, CalOK P call → DrawOK P (draw call)) : ∀ n, CalOK P (aCall P draw n)
  | 0 => fun f args h nx v h' nx' ha => by simp [aCall] at ha
  | n + 1 => fun f args h nx v h' nx' ha => by
    have hcal := aCall_ok hN hdraw n
    simp only [aCall] at ha
    cases hf : P.funcs[f]? with
    | none => simp [hf] at ha
    | some fn =>
      simp only [hf] at ha
      cases hb : fn.body with
      | none => simp [hb] at ha
      | some body =>
        simp only [hb] at ha
        cases hle : Nat.ble args.length fn.ntmps with
        | false => simp [hle] at ha
        | true =>
          simp only [hle, cond_true] at ha
          have hle' := Nat.le_of_ble_eq_true hle
          have key : ∀ (e : Ex) (st : St) (l : List AV), (e = .normal ∨ e = .ret) → aCode P (aCall P draw n) (draw (aCall P draw n)) body ⟨params args 0 .leaf, fn.ntmps, h, nx⟩ = some (e, st) → resultsA P st fn.results.toList = some l →
              nx ≤ st.nx ∧ ∀ (σ : Sg) (w : World) (ys : List Value), HR σ h w → VL σ args ys → Fresh σ nx st.nx → 1000 ≤ nx → (∀ g, g < 1000 → ∃ n, σ g = some (g, 0, n)) →
                Calls P f ⟨ys⟩ w fun e w' => ∃ y τ, e = .returned y ∧ V τ (oneA l) y ∧ HR τ st.h w' ∧ Stp σ h w τ st.h w' ∧ Ext σ τ nx st.nx := by
            intro e st l he hc hr
            obtain ⟨l1, k1⟩ := aCode_ok hN hcal (hdraw _ hcal) body _ _ _ hc
            refine ⟨l1, fun σ w ys x hv hfr hge hg => calls_of_wp hf hb ?_⟩
            have hlen := hv.length
            refine k1 σ _ w _ ⟨fun t u hu => ?_, fun t u hu => ?_, ?_, rfl, x, hg⟩ hfr hge fun τ a' w' x' hw => ?_
            · rcases params_get _ _ _ _ _ hu with ⟨_, h2, h3⟩ | ⟨_, h2⟩
              · obtain ⟨y, hy, hV⟩ := VL.get hv h3
                simp at h2
                simp only [Nat.sub_zero] at hy
                obtain ⟨h5, h6⟩ := List.getElem?_eq_some_iff.1 hy
                simp [Array.getElem?_append, ← hlen, h2, h6]
                exact hV
              · simp [Tr.get_leaf, Tr.get_zero, Tr.get_succ] at h2
            · rcases params_get _ _ _ _ _ hu with ⟨_, h2, h3⟩ | ⟨_, h2⟩
              · simp at h2 ⊢; omega
              · simp [Tr.get_leaf, Tr.get_zero, Tr.get_succ] at h2
            · simp; omega
            · have hres : ∃ ys', (results fn a'.tmps).run P w' = .ok (if h : (⟨ys'⟩ : Array Value).size = 1 then (⟨ys'⟩ : Array Value)[0] else .tuple ⟨ys'⟩) w' ∧ VL τ l ys' := by
                unfold results
                rw [Array.mapM_eq_mapM_toList]
                simp only [bind_map_left, Sem.run_bind]
                obtain ⟨ys', r1, r2⟩ := results_ok (P := P) x' (g := fun x => match x with | .tmp t => pure (a'.tmps.getD t undef) | .cell c t => do loadVar t (← asAddr (a'.tmps.getD c undef))) (fun _ => rfl) (fun _ _ => rfl) _ _ hr
                refine ⟨ys', ?_, r2⟩
                refine Eq.trans (congrArg (Result.andThen · _) (show _ = Result.ok ys' w' from ?_)) rfl
                exact r1
              obtain ⟨ys', hres, r2⟩ := hres
              rcases he with rfl | rfl
              · exact ⟨x'.defers, _, hres, _, τ, rfl, one_ok r2, x'.mem, hw.1, hw.2⟩
              · exact ⟨x'.defers, _, hres, _, τ, rfl, one_ok r2, x'.mem, hw.1, hw.2⟩
          refine ⟨⟨fn, rfl, by simp [hb]⟩, ?_⟩
          split at ha
          · rename_i st hc
            split at ha
            · rename_i l hl
              simp at ha; obtain ⟨rfl, rfl, rfl⟩ := ha
              exact key .normal st l (.inl rfl) hc hl
            · simp at ha
          · rename_i st hc
            split at ha
            · rename_i l hl
              simp at ha; obtain ⟨rfl, rfl, rfl⟩ := ha
              exact key .ret st l (.inr rfl) hc hl
            · simp at ha
          · simp at ha
end
end Go.Proofs.YtgihpgdjkanodaaGreatDoor.Ev

namespace Go.Proofs.YtgihpgdjkanodaaGreatDoor.Ev
noncomputable section
open Go Go.RowKit

mutual
def AV.beq : AV → AV → Bool
  | .bool a, .bool b => a == b
  | .int k a, .int l b => decide (k = l) && decide (a = b)
  | .str a, .str b => decide (a = b)
  | .nilp, .nilp => true
  | .ptr i o, .ptr j p => Nat.beq i j && Nat.beq o p
  | .nilsl, .nilsl => true
  | .sl i o n c, .sl j p m d => Nat.beq i j && Nat.beq o p && Nat.beq n m && (match c, d with | .known a, .known b => Nat.beq a b | .opn a, .opn b => Nat.beq a b | _, _ => false)
  | .esl, .esl => true
  | .nsl, .nsl => true
  | .nilmap, .nilmap => true
  | .mp i, .mp j => Nat.beq i j
  | .func f x y, .func g u v => decide (f = g) && AV.beqL x u && AV.beqL y v
  | .nilFunc, .nilFunc => true
  | .iface t x, .iface u y => Nat.beq t u && AV.beq x y
  | .nilIface, .nilIface => true
  | .agg l, .agg m => AV.beqL l m
  | .tup l, .tup m => AV.beqL l m
  | _, _ => false
def AV.beqL : List AV → List AV → Bool
  | [], [] => true
  | a :: l, b :: m => AV.beq a b && AV.beqL l m
  | _, _ => false
end

mutual
theorem AV.beq_eq : ∀ (a b : AV), AV.beq a b = true → a = b := by
  intro a b h
  cases a <;> cases b <;> simp only [AV.beq] at h
  all_goals first
    | rfl
    | (simp at h; done)
    | (simp at h; subst h; rfl)
    | (simp at h; obtain ⟨rfl, rfl⟩ := h; rfl)
    | (have := Nat.eq_of_beq_eq_true h; subst this; rfl)
    | (simp only [Bool.and_eq_true] at h; obtain ⟨h1, h2⟩ := h; have := Nat.eq_of_beq_eq_true h1; have := Nat.eq_of_beq_eq_true h2; subst_vars; rfl)
    | (have := AV.beqL_eq _ _ h; subst this; rfl)
    | (simp only [Bool.and_eq_true] at h; obtain ⟨h1, h2⟩ := h; have := Nat.eq_of_beq_eq_true h1; have := AV.beq_eq _ _ h2; subst_vars; rfl)
    | (simp only [Bool.and_eq_true, decide_eq_true_eq] at h; obtain ⟨⟨h1, h2⟩, h3⟩ := h; have := AV.beqL_eq _ _ h2; have := AV.beqL_eq _ _ h3; subst_vars; rfl)
    | skip
  rename_i i o n c j p m d
  simp only [Bool.and_eq_true] at h
  obtain ⟨⟨⟨h1, h2⟩, h3⟩, h4⟩ := h
  have := Nat.eq_of_beq_eq_true h1
  have := Nat.eq_of_beq_eq_true h2
  have := Nat.eq_of_beq_eq_true h3
  subst_vars
  cases c <;> cases d <;> simp only at h4
  · have := Nat.eq_of_beq_eq_true h4; subst this; rfl
  · simp at h4
  · simp at h4
  · have := Nat.eq_of_beq_eq_true h4; subst this; rfl
theorem AV.beqL_eq : ∀ (a b : List AV), AV.beqL a b = true → a = b
  | [], [], _ => rfl
  | a :: l, b :: m, h => by
    simp only [AV.beqL, Bool.and_eq_true] at h
    rw [AV.beq_eq a b h.1, AV.beqL_eq l m h.2]
  | [], _ :: _, h => by simp [AV.beqL] at h
  | _ :: _, [], h => by simp [AV.beqL] at h
end

/-- What an operation has to do with memory: 0 nothing, 1 it makes, 2 it reads, 3 anything. -/
def cls : Op → Nat
  | .move _ | .assign _ | .pick .. | .build .. | .nilCheck _ | .binOp .. | .unOp .. | .makeInterface .. | .makeFunc .. | .slice .. | .fieldAddr .. | .field .. | .indexAddr .. | .index .. | .typeAssert .. | .extract .. => 0
  | .call c => match c.callee with
    | .builtin .len | .builtin .cap | .builtin .min | .builtin .max => 0
    | _ => 3
  | .alloc _ | .box .. | .buildSlice .. | .makeSlice .. | .makeMap .. => 1
  | .load .. | .lookup .. | .convert .. => 2
  | _ => 3

section
variable {P : Program}

theorem valO_ind {o : Option AV} {h : Hp} {nx : Nat} {out : Out} (hv : valO o h nx = some out) : ∃ v, out = .val v h nx ∧ ∀ k m, valO o k m = some (.val v k m) := by
  unfold valO at hv
  split at hv
  · rename_i v; simp at hv; exact ⟨v, hv.symm, fun k m => rfl⟩
  · simp at hv
theorem ground_ind {ρ : Rho} {o : Oper} {h : Hp} {nx : Nat} {out : Out} (hv : ground P ρ o h nx = some out) : ∃ v, out = .val v h nx ∧ ∀ k m, ground P ρ o k m = some (.val v k m) := by
  unfold ground at hv
  cases hb : o.op.operands.toList.all fun x => (toO (ρ x)).isSome with
  | false => simp only [hb, cond_false] at hv; simp at hv
  | true =>
    simp only [hb, cond_true] at hv
    split at hv
    · rename_i v hp
      split at hv
      · rename_i a ha
        obtain rfl := Option.some.inj hv
        exact ⟨a, rfl, fun k m => by simp only [ground, hb, cond_true, hp, ha]⟩
      · simp at hv
    · simp at hv
theorem slice_ind {t : TypeId} {x : AV} {lo hi mx : Option AV} {h : Hp} {nx : Nat} {out : Out} (hv : sliceCase P t x lo hi mx h nx = some out) : ∃ v, out = .val v h nx ∧ ∀ k m, sliceCase P t x lo hi mx k m = some (.val v k m) := by
  unfold sliceCase at hv
  simp only [Bool.cond_eq_ite] at hv
  repeat' split at hv
  all_goals first
    | (simp at hv; done)
    | (obtain rfl := Option.some.inj hv; refine ⟨_, rfl, fun k m => ?_⟩; simp_all [sliceCase, Bool.cond_eq_ite]; done)
    | skip
  all_goals
    rename_i hu hl hno hyes
    obtain rfl := Option.some.inj hv
    refine ⟨_, rfl, fun k m => ?_⟩
    unfold sliceCase
    simp only [Bool.cond_eq_ite, *]
    simp
theorem index_ind {t : TypeId} {x i : AV} {h : Hp} {nx : Nat} {out : Out} (hv : indexAddrCase P t x i h nx = some out) : ∃ v, out = .val v h nx ∧ ∀ k m, indexAddrCase P t x i k m = some (.val v k m) := by
  unfold indexAddrCase at hv
  simp only [Bool.cond_eq_ite] at hv
  repeat' split at hv
  all_goals first
    | (simp at hv; done)
    | (obtain rfl := Option.some.inj hv; exact ⟨_, rfl, fun k m => by simp_all [indexAddrCase, Bool.cond_eq_ite]⟩)
theorem assert_ind {t : TypeId} {x : AV} {ok : Bool} {h : Hp} {nx : Nat} {out : Out} (hv : assertCase P x t ok h nx = some out) : ∃ v, out = .val v h nx ∧ ∀ k m, assertCase P x t ok k m = some (.val v k m) := by
  cases ok
  all_goals
    unfold assertCase at hv
    simp only [Bool.cond_eq_ite] at hv
    repeat' split at hv
    all_goals first
      | (simp at hv; done)
      | (obtain rfl := Option.some.inj hv; exact ⟨_, rfl, fun k m => by simp_all [assertCase, Bool.cond_eq_ite]⟩)
      | (simp at hv; obtain ⟨_, _, rfl⟩ := hv; exact ⟨_, rfl, fun k m => by simp_all [assertCase, Bool.cond_eq_ite]⟩)

theorem aop_pure {ρ : Rho} {o : Oper} {h : Hp} {nx : Nat} {out : Out} (hc : cls o.op = 0) (hv : aop P ρ o h nx = some out) : ∃ v, out = .val v h nx ∧ ∀ k m, aop P ρ o k m = some (.val v k m) := by
  obtain ⟨dst, op, ty, pos, af, gd⟩ := o
  cases op <;> simp only [cls] at hc
  all_goals first
    | (simp at hc; done)
    | skip
  case move => exact valO_ind hv
  case assign => exact valO_ind hv
  case unOp => exact ground_ind hv
  case pick c a b =>
    simp only [aop] at hv ⊢
    split at hv
    · rename_i hz; obtain ⟨v, e, k⟩ := valO_ind hv; exact ⟨v, e, fun a b => by (try rw [hz]); exact k a b⟩
    · rename_i hz; obtain ⟨v, e, k⟩ := valO_ind hv; exact ⟨v, e, fun a b => by (try rw [hz]); exact k a b⟩
    · simp at hv
  case build t parts =>
    simp only [aop] at hv ⊢
    repeat' split at hv
    all_goals first
      | (simp at hv; done)
      | (obtain rfl := Option.some.inj hv; exact ⟨_, rfl, fun k m => by simp_all⟩)
  case nilCheck z =>
    simp only [aop] at hv ⊢
    split at hv
    · rename_i v hz; obtain ⟨v, e, k⟩ := valO_ind hv; exact ⟨v, e, fun a b => by (try rw [hz]); exact k a b⟩
    · simp at hv
  case binOp bop t x y yt =>
    simp only [aop] at hv ⊢
    split at hv
    · rename_i xs ys hag
      split at hv
      · rename_i r hr
        (try simp only [hag, hr])
        split at hv
        · obtain rfl := Option.some.inj hv; exact ⟨_, rfl, fun k m => rfl⟩
        · obtain rfl := Option.some.inj hv; exact ⟨_, rfl, fun k m => rfl⟩
        · simp at hv
      · rename_i hr
        (try simp only [hag, hr])
        exact ground_ind hv
    split at hv
    · rename_i r hg
      simp at hv; subst hv
      obtain ⟨v, e, k⟩ := ground_ind hg
      exact ⟨v, e, fun a b => by rw [k a b]⟩
    · rename_i hg
      have hn : ∀ k m, ground P ρ ⟨dst, .binOp bop t x y yt, ty, pos, af, gd⟩ k m = none := fun k m => by
        cases hr : ground P ρ ⟨dst, .binOp bop t x y yt, ty, pos, af, gd⟩ k m with
        | none => rfl
        | some r => obtain ⟨v, _, kk⟩ := ground_ind hr; rw [kk h nx] at hg; simp at hg
      simp only [hn]
      repeat' split at hv
      all_goals first
        | (simp at hv; done)
        | (obtain rfl := Option.some.inj hv; exact ⟨_, rfl, fun k m => by simp_all⟩)
  case makeInterface t z =>
    simp only [aop] at hv ⊢
    repeat' split at hv
    all_goals first
      | (simp at hv; done)
      | (obtain rfl := Option.some.inj hv; exact ⟨_, rfl, fun k m => by simp_all⟩)
  case makeFunc fn a b =>
    simp only [aop] at hv ⊢
    repeat' split at hv
    all_goals first
      | (simp at hv; done)
      | (obtain rfl := Option.some.inj hv; exact ⟨_, rfl, fun k m => by simp_all⟩)
  case slice t z lo hi mx =>
    simp only [aop] at hv ⊢
    split at hv
    · rename_i s hz; (try simp only [hz]); exact ground_ind hv
    · rename_i v hne hz
      split at hv
      · rename_i a b c h1 h2 h3
        obtain ⟨u, e, k⟩ := slice_ind hv
        refine ⟨u, e, fun kk m => ?_⟩
        (try simp only [h1, h2, h3, hz])
        exact k kk m
      · simp at hv
    · simp at hv
  case fieldAddr t z k =>
    simp only [aop, Bool.cond_eq_ite] at hv ⊢
    repeat' split at hv
    all_goals first
      | (simp at hv; done)
      | (obtain rfl := Option.some.inj hv; exact ⟨_, rfl, fun k m => by simp_all⟩)
  case field t z k =>
    simp only [aop] at hv ⊢
    split at hv
    · rename_i f cs h1 h2; obtain ⟨v, e, k⟩ := valO_ind hv; exact ⟨v, e, fun a b => by (try simp only [h1, h2]); exact k a b⟩
    · simp at hv
  case indexAddr t z k =>
    simp only [aop] at hv ⊢
    split at hv
    · rename_i a b h1 h2; obtain ⟨v, e, k⟩ := index_ind hv; exact ⟨v, e, fun a b => by (try simp only [h1, h2]); exact k a b⟩
    · simp at hv
  case index t z k =>
    simp only [aop] at hv ⊢
    split at hv
    · rename_i cs b h1 h2
      (try simp only [h1, h2])
      split at hv
      · rename_i n el i h3 h4
        (try simp only [h3, h4])
        split at hv
        · rename_i s h5
          (try simp only [h5])
          cases hb : (decide (0 ≤ i) && decide (i < (n : Int))) with
          | false => simp [hb] at hv
          | true => simp only [hb, cond_true] at hv ⊢; exact valO_ind hv
        · simp at hv
      · simp at hv
    · rename_i hne
      exact ground_ind hv
  case typeAssert z xt as ok =>
    simp only [aop] at hv ⊢
    split at hv
    · rename_i a h1; obtain ⟨v, e, k⟩ := assert_ind hv; exact ⟨v, e, fun a b => by (try simp only [h1]); exact k a b⟩
    · simp at hv
  case extract z i =>
    simp only [aop] at hv ⊢
    split at hv
    · rename_i l h1; obtain ⟨v, e, k⟩ := valO_ind hv; exact ⟨v, e, fun a b => by (try simp only [h1]); exact k a b⟩
    · simp at hv
  case call c =>
    simp only [aop] at hv ⊢
    unfold callCase at hv ⊢
    split at hv
    · simp at hv
    · rename_i args ha
      (try simp only [ha])
      split at hv
      · rename_i hcal; simp [hcal] at hc
      · rename_i hcal; simp [hcal] at hc
      · rename_i b hcal
        simp only [hcal] at hc ⊢
        generalize weakL args = args' at hv ⊢
        unfold builtinCase at hv ⊢
        split at hv
        · simp at hc
        · simp at hc
        · simp at hc
        · split at hv
          · rename_i t ht
            split at hv
            · rename_i e he
              obtain rfl := Option.some.inj hv
              exact ⟨_, rfl, fun k m => by simp only [ht, he]⟩
            · simp at hv
          · simp at hv
        · split at hv
          · rename_i t ht
            split at hv
            · rename_i e he
              obtain rfl := Option.some.inj hv
              exact ⟨_, rfl, fun k m => by simp only [ht, he]⟩
            · simp at hv
          · simp at hv
        · split at hv
          · rename_i t ht
            split at hv
            · rename_i e he
              obtain rfl := Option.some.inj hv
              exact ⟨_, rfl, fun k m => by simp only [ht, he]⟩
            · simp at hv
          · simp at hv
        · obtain ⟨v, e, k⟩ := ground_ind hv
          refine ⟨v, e, fun kk m => ?_⟩
          exact k kk m

theorem makeSlice_ind {t : TypeId} {l c : AV} {h : Hp} {nx : Nat} {out : Out} (hv : makeSliceCase P t l c h nx = some out) : ∃ v blk, out = .val v (h.set fuelT nx (some blk)) (nx + 1) ∧ ∀ k, makeSliceCase P t l c k nx = some (.val v (k.set fuelT nx (some blk)) (nx + 1)) := by
  unfold makeSliceCase at hv
  simp only [Bool.cond_eq_ite] at hv
  repeat' split at hv
  all_goals first
    | (simp at hv; done)
    | (obtain rfl := Option.some.inj hv; exact ⟨_, _, rfl, fun k => by simp_all [makeSliceCase, Bool.cond_eq_ite, newR]⟩)

theorem aop_make {ρ : Rho} {o : Oper} {h : Hp} {nx : Nat} {out : Out} (hc : cls o.op = 1) (hv : aop P ρ o h nx = some out) : ∃ v blk, out = .val v (h.set fuelT nx (some blk)) (nx + 1) ∧ ∀ k, aop P ρ o k nx = some (.val v (k.set fuelT nx (some blk)) (nx + 1)) := by
  obtain ⟨dst, op, ty, pos, af, gd⟩ := o
  cases op <;> simp only [cls] at hc
  all_goals first
    | (simp at hc; done)
    | skip
  case call c => split at hc <;> simp at hc
  case alloc t =>
    simp only [aop] at hv ⊢
    repeat' split at hv
    all_goals first
      | (simp at hv; done)
      | (obtain rfl := Option.some.inj hv; exact ⟨_, _, rfl, fun k => by simp_all [newR]⟩)
  case box t z =>
    simp only [aop] at hv ⊢
    repeat' split at hv
    all_goals first
      | (simp at hv; done)
      | (obtain rfl := Option.some.inj hv; exact ⟨_, _, rfl, fun k => by simp_all [newR]⟩)
  case buildSlice t len parts =>
    simp only [aop, Bool.cond_eq_ite] at hv ⊢
    repeat' split at hv
    all_goals first
      | (simp at hv; done)
      | (obtain rfl := Option.some.inj hv; exact ⟨_, _, rfl, fun k => by simp_all [newR]⟩)
  case makeMap t r =>
    cases r with
    | some _ => simp [aop] at hv
    | none => simp only [aop] at hv ⊢; obtain rfl := Option.some.inj hv; exact ⟨_, _, rfl, fun k => rfl⟩
  case makeSlice t l c =>
    simp only [aop] at hv ⊢
    split at hv
    · rename_i a b h1 h2; exact makeSlice_ind hv
    · simp at hv

theorem aop_read {ρ : Rho} {o : Oper} {h : Hp} {nx : Nat} {out : Out} (hc : cls o.op = 2) (hv : aop P ρ o h nx = some out) : (∃ v, out = .val v h nx) ∨ out.nx nx ≠ nx := by
  obtain ⟨dst, op, ty, pos, af, gd⟩ := o
  cases op <;> simp only [cls] at hc
  all_goals first
    | (simp at hc; done)
    | skip
  case call c => split at hc <;> simp at hc
  case load t a =>
    simp only [aop] at hv
    split at hv
    · obtain ⟨v, e, _⟩ := valO_ind hv; exact .inl ⟨v, e⟩
    · simp at hv
  case lookup t x k ok =>
    simp only [aop] at hv
    split at hv
    · unfold lookupCase at hv
      repeat' split at hv
      all_goals first
        | (simp at hv; done)
        | (obtain rfl := Option.some.inj hv; exact .inl ⟨_, rfl⟩)
    · simp at hv
  case convert a b z =>
    simp only [aop] at hv
    split at hv
    · unfold convCase at hv
      simp only [Bool.cond_eq_ite] at hv
      repeat' split at hv
      all_goals first
        | (simp at hv; done)
        | (obtain rfl := Option.some.inj hv; exact .inl ⟨_, rfl⟩)
        | (obtain rfl := Option.some.inj hv; exact .inr (by simp [Out.nx]))
        | (obtain ⟨v, e, _⟩ := ground_ind hv; exact .inl ⟨v, e⟩)
    · simp at hv
end
end
end Go.Proofs.YtgihpgdjkanodaaGreatDoor.Ev


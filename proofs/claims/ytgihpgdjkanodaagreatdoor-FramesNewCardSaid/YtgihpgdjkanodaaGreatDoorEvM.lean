/-
  Helper text: our own machine goes through code as the model does; no statement is proved here.
-/
import Derived.Test.YtgihpgdjkanodaaGreatDoorEvL
import Derived.Scope
namespace Go.Proofs.YtgihpgdjkanodaaGreatDoor.Ev
noncomputable section
open Go Go.RowKit

structure St where
  tm : Tr AV
  nt : Nat
  h : Hp
  nx : Nat

inductive Ex where
  | normal | exit (id : Nat) | ret

def St.rho (st : St) : Rho
  | .tmp t => st.tm.get t
  | .const v => ofV v
  | .global g => bif Nat.blt g 1000 then some (.ptr g 0) else none
  | .func f => some (.func (.func f) [] [])

def St.put (st : St) (d : Option Tmp) (v : AV) : Option St := match d with
  | some d => bif Nat.blt d st.nt then some { st with tm := st.tm.set fuelT d (some v) } else none
  | none => some st
def St.mem (st : St) (h : Hp) (nx : Nat) : St := { st with h := h, nx := nx }

abbrev Callee := FuncId → List AV → Hp → Nat → Option (AV × Hp × Nat)

/-- A slice that goes beyond its length, where memory of ours shows that there is room. -/
def heapSlice (P : Program) (ρ : Rho) (o : Oper) (h : Hp) (nx : Nat) : Option (AV × Hp × Nat) := match o.op with
  | .slice t x lo hi none => match P.underlying t, ρ x, optO ρ lo, optO ρ hi with
    | some (.slice e), some (.sl id off len (.opn k)), some a, some b => match size? P e, bndA 0 a, bndA len b, row? h id with
      | some s, some l, some u, some cs => bif decide (0 ≤ l) && decide (l < u) && (Nat.beq s k && Nat.ble 1 s && Nat.ble (off + u.toNat * s) cs.length) then
          some (.sl id (off + l.toNat * s) (u.toNat - l.toNat) (.opn k), h, nx) else none
      | _, _, _, _ => none
    | _, _, _, _ => none
  | _ => none

/-- One operation: what it gives, and memory behind it. -/
def aStep (P : Program) (call : Callee) (ρ : Rho) (o : Oper) (h : Hp) (nx : Nat) : Option (AV × Hp × Nat) :=
  match aop P ρ o h nx with
  | some (.val v h nx) => some (v, h, nx)
  | some (.skip h nx) => some (.tup [], h, nx)
  | some (.enter f args) => call f args h nx
  | none => heapSlice P ρ o h nx

/-- Is the operation wanted? -/
def wantedR (ops : Array Oper) (o : Oper) (look : Nat → Option AV) : Option Bool :=
  match o.guard with
  | none => some true
  | some (j, b) => match (ops[j]?).bind (·.dst) with
    | some d => match look d with
      | some (.bool c) => some (c == b)
      | some (.tup []) => some false
      | _ => none
    | none => none

def aOper (P : Program) (call : Callee) (ops : Array Oper) (o : Oper) (st : St) : Option St :=
  match wantedR ops o st.tm.get with
  | some true => match aStep P call st.rho o st.h st.nx with
    | some (v, h, nx) => (st.mem h nx).put o.dst v
    | none => none
  | some false => st.put o.dst (.tup [])
  | none => none

def aOps (P : Program) (call : Callee) (ops : Array Oper) : List Oper → St → Option St
  | [], st => some st
  | o :: l, st => match aOper P call ops o st with
    | some st => aOps P call ops l st
    | none => none

def aLoop (f : St → Option (Ex × St)) : Nat → St → Option (Ex × St)
  | 0, _ => none
  | n + 1, st => match f st with
    | some (.normal, st) => aLoop f n st
    | r => r

abbrev Draw := Array Oper → St → Option St

def aCode (P : Program) (call : Callee) (draw : Draw) : Code → St → Option (Ex × St)
  | .skip, st => some (.normal, st)
  | .region _ ops false, st => match aOps P call ops ops.toList st with
    | some st => some (.normal, st)
    | none => none
  | .region _ ops true, st => match draw ops st with
    | some st => some (.normal, st)
    | none => none
  | .seq a b, st => match aCode P call draw a st with
    | some (.normal, st) => aCode P call draw b st
    | r => r
  | .cond c a b, st => match st.rho c with
    | some (.bool true) => aCode P call draw a st
    | some (.bool false) => aCode P call draw b st
    | _ => none
  | .block id c, st => match aCode P call draw c st with
    | some (.exit j, st) => bif Nat.beq j id then some (.normal, st) else some (.exit j, st)
    | r => r
  | .loop c, st => aLoop (aCode P call draw c) 100000 st
  | .exit id, st => some (.exit id, st)
  | .scope c, st => aCode P call draw c st
  | .label _, st => some (.normal, st)
  | .ret, st => some (.ret, st)
  | _, _ => none

def exitOf : Ex → Exit
  | .normal => .normal
  | .exit id => .exit id
  | .ret => .ret

structure AR (σ : Sg) (st : St) (a : Act) (w : World) : Prop where
  tm : ∀ t v, st.tm.get t = some v → V σ v (a.tmps.getD t undef)
  lt : ∀ t v, st.tm.get t = some v → t < st.nt
  size : a.tmps.size = st.nt
  defers : a.defers = []
  mem : HR σ st.h w
  glob : ∀ g, g < 1000 → ∃ n, σ g = some (g, 0, n)

/-- What a piece of code makes of a state. -/
def Went (σ : Sg) (st : St) (w : World) (st' : St) (τ : Sg) (w' : World) : Prop := Stp σ st.h w τ st'.h w' ∧ Ext σ τ st.nx st'.nx

def CodeOK (P : Program) (c : Code) (st : St) (e : Ex) (st' : St) : Prop :=
  st.nx ≤ st'.nx ∧ ∀ (σ : Sg) (a : Act) (w : World) (Q : Exit → Act → World → Prop), AR σ st a w → Fresh σ st.nx st'.nx → 1000 ≤ st.nx →
    (∀ τ a' w', AR τ st' a' w' → Went σ st w st' τ w' → Q (exitOf e) a' w') → c.wp P Q a w

def CalOK (P : Program) (call : Callee) : Prop := ∀ f args h nx v h' nx', call f args h nx = some (v, h', nx') → (∃ fn, P.funcs[f]? = some fn ∧ fn.body.isSome = true) ∧ nx ≤ nx' ∧
  ∀ (σ : Sg) (w : World) (ys : List Value), HR σ h w → VL σ args ys → Fresh σ nx nx' → 1000 ≤ nx → (∀ g, g < 1000 → ∃ n, σ g = some (g, 0, n)) →
    Calls P f ⟨ys⟩ w fun e w' => ∃ y τ, e = .returned y ∧ V τ v y ∧ HR τ h' w' ∧ Stp σ h w τ h' w' ∧ Ext σ τ nx nx'

def OpsOK (P : Program) (ops : Array Oper) (l : List Nat) (st st' : St) : Prop :=
  st.nx ≤ st'.nx ∧ ∀ (σ : Sg) (a : Act) (w : World) (Q : Exit → Act → World → Prop), AR σ st a w → Fresh σ st.nx st'.nx → 1000 ≤ st.nx →
    (∀ τ a' w', AR τ st' a' w' → Went σ st w st' τ w' → Q .normal a' w') → wpOps P ops Q l a w

def DrawOK (P : Program) (draw : Draw) : Prop := ∀ ops st st', draw ops st = some st' →
  st.nx ≤ st'.nx ∧ ∀ (id : Nat) (σ : Sg) (a : Act) (w : World) (Q : Exit → Act → World → Prop), AR σ st a w → Fresh σ st.nx st'.nx → 1000 ≤ st.nx →
    (∀ τ a' w', AR τ st' a' w' → Went σ st w st' τ w' → Q .normal a' w') → (Code.region id ops true).wp P Q a w

section
variable {P : Program}

theorem rho_ok {σ : Sg} {st : St} {a : Act} {w : World} (x : AR σ st a w) : ∀ o v, st.rho o = some v → V σ v (a.eval o) := by
  intro o v hv
  cases o with
  | tmp t => exact x.tm t v hv
  | const c => exact ofV_ok hv
  | global g =>
    simp only [St.rho] at hv
    cases hb : Nat.blt g 1000 with
    | false => simp [hb] at hv
    | true =>
      simp only [hb, cond_true] at hv
      obtain rfl := Option.some.inj hv
      have : g < 1000 := by simpa [Nat.blt_eq] using hb
      obtain ⟨n, hn⟩ := x.glob g this
      exact ⟨g, 0, n, hn, rfl⟩
  | func f => simp only [St.rho] at hv; obtain rfl := Option.some.inj hv; exact ⟨[], [], rfl, rfl, rfl⟩

theorem heapSlice_ok {σ : Sg} {h h' : Hp} {nx nx' : Nat} {w : World} {ρ : Rho} {e : Operand → Value} {o : Oper} {v : AV} (x : HR σ h w) (hρ : ∀ o v, ρ o = some v → V σ v (e o)) (ha : heapSlice P ρ o h nx = some (v, h', nx')) :
    h' = h ∧ nx' = nx ∧ ∃ y, (execOp e o).run P w = .ok (.value y) w ∧ V σ v y := by
  obtain ⟨dst, op, ty, pos, af, gd⟩ := o
  unfold heapSlice at ha
  simp only at ha
  split at ha
  · rename_i t z lo hi
    split at ha
    · rename_i el id off len k a b ht hz hlo hhi
      split at ha
      · rename_i s l u cs hs hl hu hrow
        cases hb : (decide (0 ≤ l) && decide (l < u) && (Nat.beq s k && Nat.ble 1 s && Nat.ble (off + u.toNat * s) cs.length)) with
        | false => simp only [hb, cond_false] at ha; simp at ha
        | true =>
          simp only [hb, cond_true] at ha
          simp only [Option.some.injEq, Prod.mk.injEq] at ha
          obtain ⟨rfl, rfl, rfl⟩ := ha
          simp only [Bool.and_eq_true, decide_eq_true_eq] at hb
          obtain ⟨⟨h0, h1⟩, ⟨h2, h3⟩, h4⟩ := hb
          obtain rfl := Nat.eq_of_beq_eq_true h2
          have h3 := Nat.le_of_ble_eq_true h3
          have h4 := Nat.le_of_ble_eq_true h4
          obtain ⟨bb, q, n, g1, kc, hzv, g2, g3⟩ := hρ _ _ hz
          have hcs : q + cs.length ≤ n := by
            unfold row? at hrow
            split at hrow
            · rename_i cs' tyy opn md hg
              obtain rfl := Option.some.inj hrow
              obtain ⟨b', o', n', cells, fz, tv, e1, e2, e3, e4, _⟩ := x.has _ _ hg
              rw [g1] at e1; simp at e1; obtain ⟨rfl, rfl, rfl⟩ := e1
              exact e4
            · simp at hrow
          obtain ⟨l', rfl⟩ : ∃ l' : Nat, l = l' := ⟨l.toNat, by omega⟩
          obtain ⟨u', rfl⟩ : ∃ u' : Nat, u = u' := ⟨u.toNat, by omega⟩
          simp only [Int.toNat_natCast] at h4 ⊢
          have huk : u' ≤ kc := Nat.le_of_mul_le_mul_right (by omega : u' * s ≤ kc * s) (by omega)
          have hb1 : okB (l' : Int) u' kc kc = true := by
            simp only [okB, Bool.and_eq_true, decide_eq_true_eq]; omega
          have v1 := optO_ok hρ hlo
          have v2 := optO_ok hρ hhi
          have hr := run_bounds (P := P) (w := w) true (len := len) (cap := kc) (mx := none) (bndA_ok hl v1) (bndA_ok hu v2) rfl (.inl rfl) hb1
          have hmul : l' * s + (kc - l') * s = kc * s := by rw [← Nat.add_mul]; congr 1; omega
          have hsub : u' * s ≤ kc * s := Nat.mul_le_mul_right _ huk
          refine ⟨by trivial, by trivial, .slice (some ⟨bb, q + (off + l' * s), none⟩) (u' - l') (kc - l'), ?_, bb, q, n, g1, kc - l', rfl, by show u' - l' ≤ kc - l'; omega, by show q + (off + l' * s) + (kc - l') * s = n; omega⟩
          rw [show (execOp e ⟨dst, .slice t z lo hi none, ty, pos, af, gd⟩).run P w = _ from ex_val _]
          have hk : ¬ kc = l' := by omega
          simp [Instr.sliceAt, Instr.slice, run_under ht, hzv, hr, run_sizeOf hs, hk, addr_add, Nat.add_assoc]
      · simp at ha
    · simp at ha
  · simp at ha

theorem aStep_ok (hN : NoNum P) {call : Callee} (hcal : CalOK P call) {σ : Sg} {h h' : Hp} {nx nx' : Nat} {w : World} {ρ : Rho} {a : Act} {o : Oper} {v : AV} (x : HR σ h w) (hρ : ∀ o v, ρ o = some v → V σ v (a.eval o)) (hg : ∀ g, g < 1000 → ∃ n, σ g = some (g, 0, n)) (h1 : 1000 ≤ nx)
    (ha : aStep P call ρ o h nx = some (v, h', nx')) (hf : nx ≤ nx' → Fresh σ nx nx') :
    nx ≤ nx' ∧ ∀ (next : Act → World → Prop) (Q : Exit → Act → World → Prop), (∀ τ y w', V τ v y → HR τ h' w' → Stp σ h w τ h' w' → Ext σ τ nx nx' → next (a.put o.dst y) w') → o.wp P a w next Q := by
  unfold aStep at ha
  cases hout : aop P ρ o h nx with
  | none =>
    simp only [hout] at ha
    obtain ⟨rfl, rfl, y, hr, hv⟩ := heapSlice_ok x hρ ha
    refine ⟨Nat.le_refl _, fun next Q hn => ?_⟩
    simp only [Oper.wp, hr, Oper.upon_value]
    exact hn σ y w hv x (Stp.refl _ _ _) (Ext.refl _ _ _)
  | some out =>
    simp only [hout] at ha
    cases out with
    | val v0 h0 n0 =>
      simp at ha
      obtain ⟨rfl, rfl, rfl⟩ := ha
      have hle : nx ≤ n0 := by
        rcases Nat.lt_or_ge n0 nx with hlt | hge
        · exact (aop_ok hN x hρ hout (fun id p q => absurd q (by simp [Out.nx]; omega))).1
        · exact hge
      obtain ⟨_, y, w', τ, hr, k⟩ := aop_ok hN x hρ hout (hf hle)
      refine ⟨hle, fun next Q hn => ?_⟩
      simp only [Oper.wp, hr, Oper.upon_value]
      exact hn τ y w' k.1 k.2.1 k.2.2.1 k.2.2.2
    | skip h0 n0 =>
      simp at ha
      obtain ⟨rfl, rfl, rfl⟩ := ha
      have hle : nx ≤ n0 := by
        rcases Nat.lt_or_ge n0 nx with hlt | hge
        · exact (aop_ok hN x hρ hout (fun id p q => absurd q (by simp [Out.nx]; omega))).1
        · exact hge
      obtain ⟨_, w', τ, hr, k⟩ := aop_ok hN x hρ hout (hf hle)
      refine ⟨hle, fun next Q hn => ?_⟩
      simp only [Oper.wp, hr, Oper.upon_skip]
      exact hn τ undef w' ⟨[], rfl, rfl⟩ k.1 k.2.1 k.2.2
    | enter f args =>
      simp only at ha
      obtain ⟨hfn, hle, hc⟩ := hcal _ _ _ _ _ _ _ ha
      obtain ⟨_, hk⟩ := aop_ok hN x hρ hout (fun id p q => absurd q (by simp [Out.nx]; omega))
      obtain ⟨ys, hr, hv⟩ := hk hfn
      refine ⟨hle, fun next Q hn => ?_⟩
      simp only [Oper.wp, hr, Oper.upon_enter]
      refine (hc σ w ys x hv (hf hle) h1 hg).mono ?_
      rintro e w' ⟨y, τ, rfl, k⟩
      exact hn τ y w' k.1 k.2.1 k.2.2.1 k.2.2.2

theorem put_ok {σ τ : Sg} {st st' : St} {a : Act} {w w' : World} (x : AR σ st a w) {h : Hp} {nx : Nat} {d : Option Tmp} {v : AV} {y : Value} (hp : (st.mem h nx).put d v = some st') (hle : Le σ τ) (hv : V τ v y) (hm : HR τ h w') :
    AR τ st' (a.put d y) w' ∧ st'.h = h ∧ st'.nx = nx := by
  have hg : ∀ g, g < 1000 → ∃ n, τ g = some (g, 0, n) := fun g hg => let ⟨n, hn⟩ := x.glob g hg; ⟨n, hle _ _ hn⟩
  cases d with
  | none =>
    simp only [St.put] at hp
    obtain rfl := Option.some.inj hp
    exact ⟨⟨fun t u hu => V.mono hle _ _ (x.tm t u hu), x.lt, x.size, x.defers, hm, hg⟩, rfl, rfl⟩
  | some d =>
    simp only [St.put] at hp
    cases hb : Nat.blt d (st.mem h nx).nt with
    | false => simp [hb] at hp
    | true =>
      simp only [hb, cond_true] at hp
      obtain rfl := Option.some.inj hp
      have hlt : d < a.tmps.size := by rw [x.size]; simpa [Nat.blt_eq, St.mem] using hb
      refine ⟨⟨fun t u hu => ?_, fun t u hu => ?_, by simp [Act.put, x.size, St.mem], x.defers, hm, hg⟩, rfl, rfl⟩
      case refine_2 =>
        rcases Tr.get_set _ _ _ _ _ _ hu with ⟨rfl, e⟩ | ⟨hne, hu⟩
        · rw [x.size] at hlt; exact hlt
        · exact x.lt t u hu
      rcases Tr.get_set _ _ _ _ _ _ hu with ⟨rfl, e⟩ | ⟨hne, hu⟩
      · obtain rfl := Option.some.inj e
        simpa [Act.put, Array.getD, hlt] using hv
      · have := V.mono hle _ _ (x.tm t u hu)
        simpa [Act.put, Array.getElem?_setIfInBounds_ne (Ne.symm hne)] using this

theorem wantedR_ok {ops : Array Oper} {o : Oper} {look : Nat → Option AV} {σ : Sg} {a : Act} {b : Bool} (hl : ∀ t v, look t = some v → V σ v (a.tmps.getD t undef)) (hsz : ∀ t v, look t = some v → t < a.tmps.size) (hw : wantedR ops o look = some b) :
    Region.wanted o (yielded ops a.tmps) = b := by
  unfold wantedR at hw
  unfold Region.wanted
  split at hw
  · rename_i hg; simp at hw; subst hw; simp [hg]
  · rename_i j want hg
    simp only [hg]
    split at hw
    · rename_i d hd
      split at hw
      · rename_i c hc
        simp at hw; subst hw
        have h1 := hl _ _ hc
        have h2 := hsz _ _ hc
        simp only [V] at h1
        simp [Array.getD, h2] at h1
        simp [yielded, hd, h2, h1]
      · rename_i hc
        simp at hw; subst hw
        obtain ⟨l', e1, h1⟩ := hl _ _ hc
        have h2 := hsz _ _ hc
        simp [Array.getD, h2] at h1
        simp [yielded, hd, h2, h1]
      · simp at hw
    · simp at hw

theorem put_mem {st st' : St} {d : Option Tmp} {v : AV} (hp : st.put d v = some st') : st'.h = st.h ∧ st'.nx = st.nx := by
  cases d with
  | none => simp only [St.put] at hp; obtain rfl := Option.some.inj hp; exact ⟨rfl, rfl⟩
  | some d =>
    simp only [St.put] at hp
    cases hb : Nat.blt d st.nt with
    | false => simp [hb] at hp
    | true => simp only [hb, cond_true] at hp; obtain rfl := Option.some.inj hp; exact ⟨rfl, rfl⟩

theorem valO_le {o : Option AV} {h : Hp} {nx : Nat} {out : Out} (hv : valO o h nx = some out) : nx ≤ out.nx nx := by
  unfold valO at hv
  split at hv
  · simp at hv; subst hv; exact Nat.le_refl _
  · simp at hv
theorem ground_le {ρ : Rho} {o : Oper} {h : Hp} {nx : Nat} {out : Out} (hv : ground P ρ o h nx = some out) : nx ≤ out.nx nx := by
  unfold ground at hv
  simp only [Bool.cond_eq_ite] at hv
  repeat' split at hv
  all_goals first
    | (simp at hv; done)
    | (obtain rfl := Option.some.inj hv; simp [Out.nx])
theorem appendTo_le {h : Hp} {nx e size n : Nat} {new : List AV} {s : AV} {out : Out} (hv : appendTo h nx e size n new s = some out) : nx ≤ out.nx nx := by
  unfold appendTo at hv
  simp only [Bool.cond_eq_ite] at hv
  repeat' split at hv
  all_goals first
    | (simp at hv; done)
    | (obtain rfl := Option.some.inj hv; simp [Out.nx])
theorem append_le {at' : Array TypeId} {s x : AV} {h : Hp} {nx : Nat} {out : Out} (hv : appendCase P at' s x h nx = some out) : nx ≤ out.nx nx := by
  unfold appendCase at hv
  simp only [Bool.cond_eq_ite] at hv
  repeat' split at hv
  all_goals first
    | (simp at hv; done)
    | exact appendTo_le hv
theorem copy_le {at' : Array TypeId} {s x : AV} {h : Hp} {nx : Nat} {out : Out} (hv : copyCase P at' s x h nx = some out) : nx ≤ out.nx nx := by
  unfold copyCase at hv
  repeat' split at hv
  all_goals first
    | (simp at hv; done)
    | (obtain rfl := Option.some.inj hv; simp [Out.nx])
theorem callee_le {f : AV} {args : List AV} {nx : Nat} {out : Out} (hv : calleeCase P f args = some out) : nx ≤ out.nx nx := by
  unfold calleeCase at hv
  simp only [Bool.cond_eq_ite] at hv
  repeat' split at hv
  all_goals first
    | (simp at hv; done)
    | (obtain rfl := Option.some.inj hv; simp [Out.nx])
theorem clear_le {at' : Array TypeId} {x : AV} {h : Hp} {nx : Nat} {out : Out} (hv : clearCase P at' x h nx = some out) : nx ≤ out.nx nx := by
  unfold clearCase at hv
  simp only [Bool.cond_eq_ite] at hv
  repeat' split at hv
  all_goals first
    | (simp at hv; done)
    | (obtain rfl := Option.some.inj hv; simp [Out.nx]; done)
theorem builtin_le {ρ : Rho} {b : Builtin} {c : Call} {o : Oper} {args : List AV} {h : Hp} {nx : Nat} {out : Out} (hv : builtinCase P ρ b c o args h nx = some out) : nx ≤ out.nx nx := by
  unfold builtinCase at hv
  repeat' split at hv
  all_goals first
    | (simp at hv; done)
    | (obtain rfl := Option.some.inj hv; simp [Out.nx]; done)
    | exact append_le hv
    | exact copy_le hv
    | exact clear_le hv
    | exact ground_le hv
theorem call_le {ρ : Rho} {c : Call} {o : Oper} {h : Hp} {nx : Nat} {out : Out} (hv : callCase P ρ c o h nx = some out) : nx ≤ out.nx nx := by
  unfold callCase at hv
  repeat' split at hv
  all_goals first
    | (simp at hv; done)
    | (obtain rfl := Option.some.inj hv; simp [Out.nx]; done)
    | exact callee_le hv
    | exact builtin_le hv
theorem conv_le {ρ : Rho} {o : Oper} {s d : TypeId} {x : AV} {h : Hp} {nx : Nat} {out : Out} (hv : convCase P ρ o s d x h nx = some out) : nx ≤ out.nx nx := by
  unfold convCase at hv
  simp only [Bool.cond_eq_ite] at hv
  repeat' split at hv
  all_goals first
    | (simp at hv; done)
    | (obtain rfl := Option.some.inj hv; simp [Out.nx]; done)
    | exact ground_le hv
theorem make_le {t : TypeId} {l c : AV} {h : Hp} {nx : Nat} {out : Out} (hv : makeSliceCase P t l c h nx = some out) : nx ≤ out.nx nx := by
  unfold makeSliceCase at hv
  simp only [Bool.cond_eq_ite] at hv
  repeat' split at hv
  all_goals first
    | (simp at hv; done)
    | (obtain rfl := Option.some.inj hv; simp [Out.nx]; done)
theorem slice_le {t : TypeId} {x : AV} {lo hi mx : Option AV} {h : Hp} {nx : Nat} {out : Out} (hv : sliceCase P t x lo hi mx h nx = some out) : nx ≤ out.nx nx := by
  unfold sliceCase at hv
  simp only [Bool.cond_eq_ite] at hv
  repeat' split at hv
  all_goals first
    | (simp at hv; done)
    | (obtain rfl := Option.some.inj hv; simp [Out.nx]; done)
theorem index_le {t : TypeId} {x i : AV} {h : Hp} {nx : Nat} {out : Out} (hv : indexAddrCase P t x i h nx = some out) : nx ≤ out.nx nx := by
  unfold indexAddrCase at hv
  simp only [Bool.cond_eq_ite] at hv
  repeat' split at hv
  all_goals first
    | (simp at hv; done)
    | (obtain rfl := Option.some.inj hv; simp [Out.nx]; done)
theorem assert_le {t : TypeId} {x : AV} {ok : Bool} {h : Hp} {nx : Nat} {out : Out} (hv : assertCase P x t ok h nx = some out) : nx ≤ out.nx nx := by
  unfold assertCase at hv
  simp only [Bool.cond_eq_ite] at hv
  repeat' split at hv
  all_goals first
    | (simp at hv; done)
    | (obtain rfl := Option.some.inj hv; simp [Out.nx]; done)
    | (simp at hv; obtain ⟨_, _, rfl⟩ := hv; simp [Out.nx]; done)
theorem lookup_le {t : TypeId} {x k : AV} {ok : Bool} {h : Hp} {nx : Nat} {out : Out} (hv : lookupCase P t x k ok h nx = some out) : nx ≤ out.nx nx := by
  unfold lookupCase at hv
  repeat' split at hv
  all_goals first
    | (simp at hv; done)
    | (obtain rfl := Option.some.inj hv; simp [Out.nx]; done)
theorem update_le {t : TypeId} {m k z : AV} {h : Hp} {nx : Nat} {out : Out} (hv : mapUpdateCase P t m k z h nx = some out) : nx ≤ out.nx nx := by
  unfold mapUpdateCase at hv
  simp only [Bool.cond_eq_ite] at hv
  repeat' split at hv
  all_goals first
    | (simp at hv; done)
    | (obtain rfl := Option.some.inj hv; simp [Out.nx]; done)
theorem aop_le {ρ : Rho} {o : Oper} {h : Hp} {nx : Nat} {out : Out} (hv : aop P ρ o h nx = some out) : nx ≤ out.nx nx := by
  obtain ⟨dst, op, ty, pos, af, gd⟩ := o
  unfold aop at hv
  simp only [Bool.cond_eq_ite] at hv
  cases op <;> (try simp only at hv)
  all_goals (repeat' split at hv)
  all_goals first
    | (simp at hv; done)
    | exact valO_le hv
    | exact ground_le hv
    | exact conv_le hv
    | exact make_le hv
    | exact slice_le hv
    | exact index_le hv
    | exact assert_le hv
    | exact lookup_le hv
    | exact update_le hv
    | exact call_le hv
    | (obtain rfl := Option.some.inj hv; simp [Out.nx]; done)
    | (simp at hv; subst hv; rename_i hg; exact ground_le hg)

theorem aOper_ok (hN : NoNum P) {call : Callee} (hcal : CalOK P call) {ops : Array Oper} {i : Nat} {o : Oper} (ho : ops[i]? = some o) {st st' : St} (ha : aOper P call ops o st = some st') :
    st.nx ≤ st'.nx ∧ ∀ (σ : Sg) (a : Act) (w : World) (K : Act → World → Prop) (Q : Exit → Act → World → Prop), AR σ st a w → Fresh σ st.nx st'.nx → 1000 ≤ st.nx →
      (∀ τ a' w', AR τ st' a' w' → Went σ st w st' τ w' → K a' w') → wpOp P ops Q i K a w := by
  unfold aOper at ha
  cases hw : wantedR ops o st.tm.get with
  | none => simp [hw] at ha
  | some b =>
    cases b with
    | false =>
      simp only [hw] at ha
      have hnx : st'.nx = st.nx ∧ st'.h = st.h := (put_mem ha).symm
      refine ⟨by omega, fun σ a w K Q x hf h1 hK => ?_⟩
      have hwt := wantedR_ok (ops := ops) (o := o) x.tm (fun t v hv => by rw [x.size]; exact x.lt t v hv) hw
      simp only [wpOp, ho, hwt]
      obtain ⟨y, y1, y2⟩ := put_ok x (h := st.h) (nx := st.nx) (y := undef) ha (Le.refl σ) ⟨[], rfl, rfl⟩ x.mem
      refine hK σ _ w y ⟨?_, fun id hid => rfl⟩
      rw [hnx.2]; exact Stp.refl _ _ _
    | true =>
      simp only [hw] at ha
      cases hs : aStep P call st.rho o st.h st.nx with
      | none => simp [hs] at ha
      | some r =>
        obtain ⟨v, h, nx⟩ := r
        simp only [hs] at ha
        have hmem : st'.h = h ∧ st'.nx = nx := put_mem ha
        have hle : st.nx ≤ nx := by
          unfold aStep at hs
          cases hout : aop P st.rho o st.h st.nx with
          | none =>
            simp only [hout] at hs
            unfold heapSlice at hs
            simp only [Bool.cond_eq_ite] at hs
            repeat' split at hs
            all_goals first
              | (simp at hs; done)
              | (simp at hs; obtain ⟨_, _, rfl⟩ := hs; exact Nat.le_refl _)
          | some out =>
            simp only [hout] at hs
            cases out with
            | val v0 h0 n0 => simp at hs; obtain ⟨_, _, rfl⟩ := hs; exact aop_le hout
            | skip h0 n0 => simp at hs; obtain ⟨_, _, rfl⟩ := hs; exact aop_le hout
            | enter f args => exact (hcal _ _ _ _ _ _ _ hs).2.1
        refine ⟨by omega, fun σ a w K Q x hf h1 hK => ?_⟩
        have hwt := wantedR_ok (ops := ops) (o := o) x.tm (fun t v hv => by rw [x.size]; exact x.lt t v hv) hw
        simp only [wpOp, ho, hwt]
        refine .inl ?_
        rw [hmem.2] at hf
        obtain ⟨_, hk⟩ := aStep_ok hN hcal x.mem (rho_ok x) x.glob h1 hs (fun _ => hf)
        refine hk K Q fun τ y w' hv hm hst hex => ?_
        obtain ⟨z, z1, z2⟩ := put_ok x ha (hex.le hf) hv hm
        exact hK τ _ w' z ⟨by rw [z1]; exact hst, by rw [z2]; exact hex⟩

theorem aOps_ok (hN : NoNum P) {call : Callee} (hcal : CalOK P call) {ops : Array Oper} : ∀ (l : List Oper) (k : Nat) (st st' : St), ops.toList.drop k = l → aOps P call ops l st = some st' → OpsOK P ops (List.range' k l.length) st st'
  | [], k, st, st', hl, ha => by
    simp only [aOps] at ha
    obtain rfl := Option.some.inj ha
    exact ⟨Nat.le_refl _, fun σ a w Q x _ _ hQ => by simpa [wpOps] using hQ σ a w x ⟨Stp.refl _ _ _, Ext.refl _ _ _⟩⟩
  | o :: l, k, st, st', hl, ha => by
    simp only [aOps] at ha
    cases h1 : aOper P call ops o st with
    | none => simp [h1] at ha
    | some s1 =>
      simp only [h1] at ha
      have ho : ops[k]? = some o := by
        have := congrArg (·[0]?) hl
        simpa [List.getElem?_drop] using this
      obtain ⟨l1, k1⟩ := aOper_ok hN hcal ho h1
      obtain ⟨l2, k2⟩ := aOps_ok hN hcal l (k + 1) s1 st' (by rw [← List.drop_drop, hl]; rfl) ha
      refine ⟨Nat.le_trans l1 l2, fun σ a w Q x hf hge hQ => ?_⟩
      rw [List.length_cons, List.range'_succ, wpOps_cons]
      refine k1 σ a w _ Q x (hf.sub (Nat.le_refl _) l2) hge fun τ a' w' x' hw => ?_
      refine k2 τ a' w' Q x' (hf.ext hw.2 l1) (by omega) fun ρ a'' w'' x'' hw' => ?_
      exact hQ ρ a'' w'' x'' ⟨hw.1.trans hw'.1, hw.2.trans hw'.2 l1 l2⟩

/-- Code in a loop, behind a round. -/
def InLoop (P : Program) (c : Code) (Q : Exit → Act → World → Prop) (a : Act) (w : World) : Prop :=
  ∀ (b : Frame) (k : List Item) (cs : List Frame), ∃ e a' w', Q e a' w' ∧ Arrives P (lone (b.at a (.inLoop c :: k)) cs w) b k cs e a' w'

theorem round {c : Code} {Q : Exit → Act → World → Prop} {a : Act} {w : World} (h : c.wp P (Exit.then (InLoop P c Q) Q) a w) (b : Frame) (k : List Item) (cs : List Frame) :
    ∃ e a' w', Q e a' w' ∧ Arrives P (lone (b.at a (.code c :: .inLoop c :: k)) cs w) b k cs e a' w' := by
  obtain ⟨e, a₁, w₁, hq, harr⟩ := h b (.inLoop c :: k) cs
  cases e with
  | normal =>
    obtain ⟨e₂, a₂, w₂, hq₂, harr₂⟩ := hq b k cs
    exact ⟨e₂, a₂, w₂, hq₂, .of_steps harr harr₂⟩
  | exit id => exact ⟨_, a₁, w₁, hq, .pass (x := .inLoop c) rfl (fun _ _ => .inl (by simp)) harr⟩
  | goto l => exact ⟨_, a₁, w₁, hq, .pass (x := .inLoop c) rfl (fun _ _ => .inl (by simp)) harr⟩
  | ret => exact ⟨_, a₁, w₁, hq, .pass (x := .inLoop c) rfl (fun _ _ => .inl (by simp)) harr⟩
  | panic ch => exact ⟨_, a₁, w₁, hq, .pass (x := .inLoop c) rfl (fun _ _ => .inl (by simp)) harr⟩
  | outgrown => exact ⟨_, a₁, w₁, hq, .pass (x := .inLoop c) rfl (fun _ _ => .inl (by simp)) harr⟩

theorem InLoop.of {c : Code} {Q : Exit → Act → World → Prop} {a : Act} {w : World} (h : c.wp P (Exit.then (InLoop P c Q) Q) a w) : InLoop P c Q a w := fun b k cs =>
  let ⟨e, a', w', hq, harr⟩ := round h b k cs
  ⟨e, a', w', hq, .of_steps (.one step_inLoop) harr⟩

theorem wp_loop_of {c : Code} {Q : Exit → Act → World → Prop} {a : Act} {w : World} (h : c.wp P (Exit.then (InLoop P c Q) Q) a w) : (Code.loop c).wp P Q a w := fun b k cs =>
  let ⟨e, a', w', hq, harr⟩ := round h b k cs
  ⟨e, a', w', hq, .of_steps (.one step_loop) harr⟩

theorem then_exit {K : Act → World → Prop} {Q : Exit → Act → World → Prop} {e : Ex} {a : Act} {w : World} (he : e ≠ .normal) (h : Q (exitOf e) a w) : Exit.then K Q (exitOf e) a w := by
  cases e with
  | normal => exact absurd rfl he
  | exit id => exact h
  | ret => exact h

/-- The rounds of a loop. -/
theorem aLoop_ok {c : Code} {f : St → Option (Ex × St)} (hf : ∀ st e st', f st = some (e, st') → CodeOK P c st e st') : ∀ (n : Nat) (st : St) (e : Ex) (st' : St), aLoop f n st = some (e, st') →
    st.nx ≤ st'.nx ∧ ∀ (σ : Sg) (a : Act) (w : World) (Q : Exit → Act → World → Prop), AR σ st a w → Fresh σ st.nx st'.nx → 1000 ≤ st.nx →
      (∀ τ a' w', AR τ st' a' w' → Went σ st w st' τ w' → Q (exitOf e) a' w') → c.wp P (Exit.then (InLoop P c Q) Q) a w
  | 0, st, e, st', ha => by simp [aLoop] at ha
  | n + 1, st, e, st', ha => by
    simp only [aLoop] at ha
    cases h1 : f st with
    | none => simp [h1] at ha
    | some r =>
      obtain ⟨e1, s1⟩ := r
      obtain ⟨l1, k1⟩ := hf _ _ _ h1
      cases e1 with
      | normal =>
        simp only [h1] at ha
        obtain ⟨l2, k2⟩ := aLoop_ok hf n s1 e st' ha
        refine ⟨Nat.le_trans l1 l2, fun σ a w Q x hfr hge hQ => ?_⟩
        refine k1 σ a w _ x (hfr.sub (Nat.le_refl _) l2) hge fun τ a' w' x' hw => ?_
        refine InLoop.of (k2 τ a' w' Q x' (hfr.ext hw.2 l1) (by omega) fun ρ a'' w'' x'' hw' => ?_)
        exact hQ ρ a'' w'' x'' ⟨hw.1.trans hw'.1, hw.2.trans hw'.2 l1 l2⟩
      | exit id =>
        simp only [h1] at ha
        simp at ha
        obtain ⟨rfl, rfl⟩ := ha
        exact ⟨l1, fun σ a w Q x hfr hge hQ => k1 σ a w _ x hfr hge fun τ a' w' x' hw => then_exit (by simp) (hQ τ a' w' x' hw)⟩
      | ret =>
        simp only [h1] at ha
        simp at ha
        obtain ⟨rfl, rfl⟩ := ha
        exact ⟨l1, fun σ a w Q x hfr hge hQ => k1 σ a w _ x hfr hge fun τ a' w' x' hw => then_exit (by simp) (hQ τ a' w' x' hw)⟩

theorem aCode_ok (hN : NoNum P) {call : Callee} (hcal : CalOK P call) {draw : Draw} (hdraw : DrawOK P draw) : ∀ (c : Code) (st : St) (e : Ex) (st' : St), aCode P call draw c st = some (e, st') → CodeOK P c st e st' := by
  intro c
  induction c with
  | skip =>
    intro st e st' ha
    simp only [aCode] at ha; simp at ha; obtain ⟨rfl, rfl⟩ := ha
    exact ⟨Nat.le_refl _, fun σ a w Q x _ _ hQ => wp_skip (hQ σ a w x ⟨Stp.refl _ _ _, Ext.refl _ _ _⟩)⟩
  | label l =>
    intro st e st' ha
    simp only [aCode] at ha; simp at ha; obtain ⟨rfl, rfl⟩ := ha
    exact ⟨Nat.le_refl _, fun σ a w Q x _ _ hQ => wp_label (hQ σ a w x ⟨Stp.refl _ _ _, Ext.refl _ _ _⟩)⟩
  | ret =>
    intro st e st' ha
    simp only [aCode] at ha; simp at ha; obtain ⟨rfl, rfl⟩ := ha
    exact ⟨Nat.le_refl _, fun σ a w Q x _ _ hQ => wp_ret (hQ σ a w x ⟨Stp.refl _ _ _, Ext.refl _ _ _⟩)⟩
  | exit id =>
    intro st e st' ha
    simp only [aCode] at ha; simp at ha; obtain ⟨rfl, rfl⟩ := ha
    exact ⟨Nat.le_refl _, fun σ a w Q x _ _ hQ => wp_exit (hQ σ a w x ⟨Stp.refl _ _ _, Ext.refl _ _ _⟩)⟩
  | region id ops d =>
    intro st e st' ha
    cases d with
    | false =>
      simp only [aCode] at ha
      cases h1 : aOps P call ops ops.toList st with
      | none => simp [h1] at ha
      | some s1 =>
        simp [h1] at ha; obtain ⟨rfl, rfl⟩ := ha
        obtain ⟨l1, k1⟩ := aOps_ok hN hcal ops.toList 0 st s1 rfl h1
        refine ⟨l1, fun σ a w Q x hf hge hQ => wp_region ?_⟩
        rw [List.range_eq_range', ← Array.length_toList]
        exact k1 σ a w Q x hf hge hQ
    | true =>
      simp only [aCode] at ha
      cases h1 : draw ops st with
      | none => simp [h1] at ha
      | some s1 =>
        simp [h1] at ha; obtain ⟨rfl, rfl⟩ := ha
        obtain ⟨l1, k1⟩ := hdraw ops st s1 h1
        exact ⟨l1, fun σ a w Q x hf hge hQ => k1 id σ a w Q x hf hge hQ⟩
  | seq c d ihc ihd =>
    intro st e st' ha
    simp only [aCode] at ha
    cases h1 : aCode P call draw c st with
    | none => simp [h1] at ha
    | some r =>
      obtain ⟨e1, s1⟩ := r
      obtain ⟨l1, k1⟩ := ihc _ _ _ h1
      cases e1 with
      | normal =>
        simp only [h1] at ha
        obtain ⟨l2, k2⟩ := ihd _ _ _ ha
        refine ⟨Nat.le_trans l1 l2, fun σ a w Q x hfr hge hQ => wp_seq ?_⟩
        refine k1 σ a w _ x (hfr.sub (Nat.le_refl _) l2) hge fun τ a' w' x' hw => ?_
        refine k2 τ a' w' Q x' (hfr.ext hw.2 l1) (by omega) fun ρ a'' w'' x'' hw' => ?_
        exact hQ ρ a'' w'' x'' ⟨hw.1.trans hw'.1, hw.2.trans hw'.2 l1 l2⟩
      | exit id =>
        simp [h1] at ha; obtain ⟨rfl, rfl⟩ := ha
        exact ⟨l1, fun σ a w Q x hfr hge hQ => wp_seq (k1 σ a w _ x hfr hge fun τ a' w' x' hw => then_exit (by simp) (hQ τ a' w' x' hw))⟩
      | ret =>
        simp [h1] at ha; obtain ⟨rfl, rfl⟩ := ha
        exact ⟨l1, fun σ a w Q x hfr hge hQ => wp_seq (k1 σ a w _ x hfr hge fun τ a' w' x' hw => then_exit (by simp) (hQ τ a' w' x' hw))⟩
  | cond z c d ihc ihd =>
    intro st e st' ha
    simp only [aCode] at ha
    split at ha
    · rename_i hz
      obtain ⟨l1, k1⟩ := ihc _ _ _ ha
      exact ⟨l1, fun σ a w Q x hf hge hQ => wp_cond_true (rho_ok x _ _ hz) (k1 σ a w Q x hf hge hQ)⟩
    · rename_i hz
      obtain ⟨l1, k1⟩ := ihd _ _ _ ha
      exact ⟨l1, fun σ a w Q x hf hge hQ => wp_cond_false (rho_ok x _ _ hz) (k1 σ a w Q x hf hge hQ)⟩
    · simp at ha
  | block id c ih =>
    intro st e st' ha
    simp only [aCode] at ha
    cases h1 : aCode P call draw c st with
    | none => simp [h1] at ha
    | some r =>
      obtain ⟨e1, s1⟩ := r
      obtain ⟨l1, k1⟩ := ih _ _ _ h1
      cases e1 with
      | normal =>
        simp [h1] at ha; obtain ⟨rfl, rfl⟩ := ha
        exact ⟨l1, fun σ a w Q x hfr hge hQ => wp_block (k1 σ a w _ x hfr hge hQ)⟩
      | exit j =>
        simp only [h1] at ha
        cases hb : Nat.beq j id with
        | true =>
          obtain rfl := Nat.eq_of_beq_eq_true hb
          simp [hb] at ha; obtain ⟨rfl, rfl⟩ := ha
          exact ⟨l1, fun σ a w Q x hfr hge hQ => wp_block (k1 σ a w _ x hfr hge fun τ a' w' x' hw => by simpa [Exit.inBlock, exitOf] using hQ τ a' w' x' hw)⟩
        | false =>
          have hne := Nat.ne_of_beq_eq_false hb
          simp [hb] at ha; obtain ⟨rfl, rfl⟩ := ha
          exact ⟨l1, fun σ a w Q x hfr hge hQ => wp_block (k1 σ a w _ x hfr hge fun τ a' w' x' hw => by simpa [Exit.inBlock, exitOf, hne] using hQ τ a' w' x' hw)⟩
      | ret =>
        simp [h1] at ha; obtain ⟨rfl, rfl⟩ := ha
        exact ⟨l1, fun σ a w Q x hfr hge hQ => wp_block (k1 σ a w _ x hfr hge hQ)⟩
  | loop c ih =>
    intro st e st' ha
    simp only [aCode] at ha
    obtain ⟨l1, k1⟩ := aLoop_ok ih _ _ _ _ ha
    exact ⟨l1, fun σ a w Q x hfr hge hQ => wp_loop_of (k1 σ a w Q x hfr hge hQ)⟩
  | scope c ih =>
    intro st e st' ha
    simp only [aCode] at ha
    obtain ⟨l1, k1⟩ := ih _ _ _ ha
    refine ⟨l1, fun σ a w Q x hfr hge hQ => wp_scope_straight (k1 σ a w _ x hfr hge fun τ a' w' x' hw => ?_)⟩
    have := hQ τ a' w' x' hw
    cases e <;> exact this
  | rangeFunc f ps as b => intro st e st' ha; simp [aCode] at ha
  | goto l => intro st e st' ha; simp [aCode] at ha
  | refuse y => intro st e st' ha; simp [aCode] at ha
end
end
end Go.Proofs.YtgihpgdjkanodaaGreatDoor.Ev

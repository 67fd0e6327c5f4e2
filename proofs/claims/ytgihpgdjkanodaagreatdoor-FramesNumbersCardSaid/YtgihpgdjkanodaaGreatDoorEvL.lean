/-
  Helper text: each operation of our own machine is the model's; no statement is proved here.
-/
import Derived.Test.YtgihpgdjkanodaaGreatDoorEvK
namespace Go.Proofs.YtgihpgdjkanodaaGreatDoor.Ev
noncomputable section
open Go Go.RowKit

section
variable {P : Program} {σ : Sg} {h : Hp} {nx : Nat} {w : World}

/-- No function of the program bears the one name that the model takes for itself. -/
def NoNum (P : Program) : Prop := ∀ (f : FuncId) (fn : Func), P.funcs[f]? = some fn → (fn.name == "runtime.NumGoroutine") = false

theorem callee_ok (hN : NoNum P) {f : AV} {fv : Value} {args : List AV} {ys : List Value} {out : Out} (hfv : V σ f fv) (hargs : VL σ args ys) (hc : calleeCase P f args = some out) :
    nx ≤ out.nx nx ∧ OutOK P σ h nx w (((Deferred.ofValue fv ⟨ys⟩).run P w).andThen fun d w' => (invoke d.target d.args).run P w') out := by
  unfold calleeCase at hc
  split at hc
  · rename_i g first captured
    obtain rfl := Option.some.inj hc
    obtain ⟨l1, l2, p1, p2, rfl⟩ := hfv
    refine ⟨Nat.le_refl _, fun hf => ⟨l1 ++ ys ++ l2, ?_, (p1.append hargs).append p2⟩⟩
    simp [Deferred.ofValue, invoke, callFunc_ok hN hf]
  · rename_i name first captured
    obtain ⟨l1, l2, p1, p2, rfl⟩ := hfv
    have hva := p1.append hargs
    split at hc
    · rename_i t v rest he
      rw [he] at hva
      split at hc
      · rename_i g hm
        obtain rfl := Option.some.inj hc
        obtain ⟨y, ys', e1, hy, hr⟩ := hva
        obtain ⟨yv, hyv, rfl⟩ := hy
        refine ⟨Nat.le_refl _, fun hf => ⟨yv :: ys', ?_, VL.cons hyv hr⟩⟩
        obtain ⟨n, hn⟩ := fuel_pos P
        have harr : (⟨l1⟩ ++ ⟨ys⟩ : Array Value) = ⟨.iface t yv :: ys'⟩ := by apply Array.ext'; simp [e1]
        have hext : (⟨.iface t yv :: ys'⟩ : Array Value).extract 1 (ys'.length + 1) = ⟨ys'⟩ := by apply Array.ext'; simp [List.extract_eq_take_drop]
        simp [Deferred.ofValue, harr, invoke, callMethod, hn, method_ok hm, callFunc_ok hN hf, hext]
      · simp at hc
    · simp at hc
  · rename_i t path g ptr first captured
    obtain ⟨l1, l2, p1, p2, rfl⟩ := hfv
    have hva := p1.append hargs
    split at hc
    · rename_i v rest he
      rw [he] at hva
      cases hp : (path.isEmpty && !ptr) with
      | false => simp [hp] at hc
      | true =>
        simp only [hp, cond_true] at hc
        simp only [Bool.and_eq_true, Bool.not_eq_true'] at hp
        obtain ⟨hp1, rfl⟩ := hp
        have hpath : path = #[] := by simpa using hp1
        split at hc
        · simp at hc
        · simp at hc
        · rename_i d hne ht
          obtain rfl := Option.some.inj hc
          obtain ⟨y, ys', e1, hy, hr⟩ := hva
          refine ⟨Nat.le_refl _, fun hf => ⟨y :: ys', ?_, VL.cons hy hr⟩⟩
          have harr : (⟨l1⟩ ++ ⟨ys⟩ : Array Value) = ⟨y :: ys'⟩ := by apply Array.ext'; simp [e1]
          have hext : (⟨y :: ys'⟩ : Array Value).extract 1 (ys'.length + 1) = ⟨ys'⟩ := by apply Array.ext'; simp [List.extract_eq_take_drop]
          have hrec : (receiverVia t y path false).run P w = .ok y w := by
            subst hpath
            cases d <;> first
              | (exact absurd rfl (hne _))
              | simp [receiverVia, follow, receiverAt, run_under ht, Place.get]
          simp [Deferred.ofValue, harr, invoke, hrec, callFunc_ok hN hf, hext]
    · simp at hc
  · simp at hc

theorem zeroCells_toL (z : Array Value) (n : Nat) (hz : 0 < z.size) : (Builtin.zeroCells z n).toList = (List.replicate n z.toList).flatten := by
  apply List.ext_getElem?
  intro i
  have h1 : (Builtin.zeroCells z n).toList[i]? = if i < n * z.size then z[i % z.size]? else none := by
    simp only [Builtin.zeroCells, Array.toList_map, Array.toList_range, List.getElem?_map]
    by_cases h : i < n * z.size
    · have hm : i % z.size < z.size := Nat.mod_lt _ hz
      simp [h, hm]
    · simp [h, List.getElem?_eq_none (l := List.range (n * z.size)) (i := i) (by simp; omega)]
  rw [h1]
  induction n generalizing i with
  | zero => simp
  | succ n ih =>
    rw [List.replicate_succ, List.flatten_cons]
    rcases Nat.lt_or_ge i z.size with h | h
    · rw [List.getElem?_append_left (by simpa using h), if_pos (by rw [Nat.add_mul]; omega), Nat.mod_eq_of_lt h]
      simp
    · rw [List.getElem?_append_right (by simpa using h)]
      have h2 := ih (i - z.size) (by
        have := h1
        simp only [Builtin.zeroCells, Array.toList_map, Array.toList_range, List.getElem?_map]
        by_cases h : i - z.size < n * z.size
        · have hm : (i - z.size) % z.size < z.size := Nat.mod_lt _ hz
          simp [h, hm]
        · simp [h, List.getElem?_eq_none (l := List.range (n * z.size)) (i := i - z.size) (by simp; omega)])
      simp only [Array.length_toList]
      rw [← h2]
      have hmod : (i - z.size) % z.size = i % z.size := by
        conv => rhs; rw [show i = i - z.size + z.size by omega, Nat.add_mod_right]
      rw [hmod]
      have : (i < (n + 1) * z.size) ↔ (i - z.size < n * z.size) := by rw [Nat.add_mul]; omega
      by_cases h3 : i - z.size < n * z.size
      · rw [if_pos h3, if_pos (this.2 h3)]
      · rw [if_neg h3, if_neg (fun h => h3 (this.1 h))]

theorem clear_ok {argTypes : Array TypeId} {ty : TypeId} {s : AV} {sv : Value} {out : Out} (x : HR σ h w) (hs : V σ s sv) (hc : clearCase P argTypes s h nx = some out) :
    ∃ h' w', out = .val (.tup []) h' nx ∧ (Builtin.clear_ argTypes ty #[sv]).run P w = .ok (.tuple #[]) w' ∧ HR σ h' w' ∧ Stp σ h w σ h' w' := by
  unfold clearCase at hc
  split at hc
  · rename_i t id off n c ht
    split at hc
    · rename_i e he
      split at hc
      · rename_i z hz
        cases hb : (Nat.ble 1 n && Nat.ble 1 z.cells.length) with
        | false => simp [hb] at hc
        | true =>
          simp only [hb, cond_true] at hc
          simp only [Bool.and_eq_true] at hb
          have hn := Nat.le_of_ble_eq_true hb.1
          have hzl := Nat.le_of_ble_eq_true hb.2
          split at hc
          · rename_i h' hst
            obtain rfl := Option.some.inj hc
            obtain ⟨b, o, m, g1, k, rfl, _⟩ := hs
            obtain ⟨zv, z1, z2, _⟩ := run_zeroValue hz w σ
            have hv := z2.cells
            have hzs : 0 < zv.cells.size := by rw [← Array.length_toList, ← hv.length]; exact hzl
            obtain ⟨b', o', m', w', k1, k2, k3, k4⟩ := storeC_ok (P := P) x hst (hv.rep n)
            rw [g1] at k1; simp at k1; obtain ⟨rfl, rfl, rfl⟩ := k1
            refine ⟨h', w', rfl, ?_, k3, k4⟩
            obtain ⟨n', rfl⟩ : ∃ n', n = n' + 1 := ⟨n - 1, by omega⟩
            simp [Builtin.clear_, ht, run_under (slice?_ok he), z1, zeroCells_toL _ _ hzs, k2]
          · simp at hc
      · simp at hc
    · simp at hc
  · simp at hc

theorem builtin_ok {ρ : Rho} {e : Operand → Value} {b : Builtin} {c : Call} {o : Oper} {args : List AV} {ys : List Value} {out : Out} (x : HR σ h w) (hρ : ∀ o v, ρ o = some v → V σ v (e o)) (ho : o.op = .call c) (hb : c.callee = .builtin b)
    (hy : ys = c.args.toList.map e) (hargs : VL σ args ys) (hc : builtinCase P ρ b c o args h nx = some out) (hf : Fresh σ nx (out.nx nx)) :
    nx ≤ out.nx nx ∧ OutOK P σ h nx w ((execOp e o).run P w) out := by
  have hs : ∀ cs b, o.op ≠ .select cs b := fun cs b k => by rw [ho] at k; simp at k
  have harr : c.args.map e = ⟨ys⟩ := by apply Array.ext'; simp [hy]
  have hex : (execOp e o).run P w = (invoke (.builtin b c.argTypes o.type (c.args.map fun | .const _ => true | _ => false)) ⟨ys⟩).run P w := by
    obtain ⟨d, op, ty, pos, af, gd⟩ := o
    simp only at ho; subst ho
    simp [execOp, resolve, hb, harr]
    try rfl
  unfold builtinCase at hc
  split at hc
  · rename_i s xx
    obtain ⟨sv, l1, rfl, hs1, xv, l2, rfl, hx1, rfl⟩ := hargs
    rw [hex]
    have := append_ok (ty := o.type) x hs1 hx1 hc hf
    simpa [invoke, builtin] using this
  · rename_i d s
    obtain ⟨sv, l1, rfl, hs1, xv, l2, rfl, hx1, rfl⟩ := hargs
    rw [hex]
    have := copy_ok (ty := o.type) x hs1 hx1 hc
    simpa [invoke, builtin] using this
  · rename_i s
    obtain ⟨sv, l1, rfl, hs1, rfl⟩ := hargs
    rw [hex]
    obtain ⟨h', w', rfl, k1, k2, k3⟩ := clear_ok (ty := o.type) x hs1 hc
    refine ⟨Nat.le_refl _, .tuple #[], w', σ, ?_, ⟨[], rfl, rfl⟩, k2, k3, Ext.refl _ _ _⟩
    simp [invoke, builtin, k1]
  · rename_i i q n k
    obtain ⟨sv, l1, rfl, hs1, rfl⟩ := hargs
    split at hc
    · rename_i t ht
      split at hc
      · rename_i el hel
        obtain rfl := Option.some.inj hc
        have hu := slice?_ok hel
        obtain ⟨b', o', m', g1, kk, rfl, _⟩ := hs1
        refine ⟨Nat.le_refl _, out_same x ?_ rfl⟩
        rw [hex]
        simp [invoke, builtin, Builtin.len_, ht, run_under hu, goInt]
      · simp at hc
    · simp at hc
  · obtain ⟨sv, l1, rfl, hs1, rfl⟩ := hargs
    split at hc
    · rename_i t ht
      split at hc
      · rename_i el hel
        obtain rfl := Option.some.inj hc
        have hu := slice?_ok hel
        obtain ⟨a, k, rfl⟩ := hs1
        refine ⟨Nat.le_refl _, out_same x ?_ rfl⟩
        rw [hex]
        simp [invoke, builtin, Builtin.len_, ht, run_under hu, goInt]
      · simp at hc
    · simp at hc
  · rename_i i q n k
    obtain ⟨sv, l1, rfl, hs1, rfl⟩ := hargs
    split at hc
    · rename_i t ht
      split at hc
      · rename_i el hel
        obtain rfl := Option.some.inj hc
        have hu := slice?_ok hel
        obtain ⟨b', o', m', g1, kk, rfl, hk⟩ := hs1
        simp only at hk; subst hk
        refine ⟨Nat.le_refl _, out_same x ?_ rfl⟩
        rw [hex]
        simp [invoke, builtin, Builtin.cap_, ht, run_under hu, goInt]
      · simp at hc
    · simp at hc
  · exact ground_ok x hρ hs hc

theorem call_ok (hN : NoNum P) {ρ : Rho} {e : Operand → Value} {c : Call} {o : Oper} {out : Out} (x : HR σ h w) (hρ : ∀ o v, ρ o = some v → V σ v (e o)) (ho : o.op = .call c) (hc : callCase P ρ c o h nx = some out) (hf : Fresh σ nx (out.nx nx)) :
    nx ≤ out.nx nx ∧ OutOK P σ h nx w ((execOp e o).run P w) out := by
  unfold callCase at hc
  split at hc
  · simp at hc
  · rename_i args hv
    have hargs := valsOf_ok hρ hv
    have harr : c.args.map e = ⟨c.args.toList.map e⟩ := by apply Array.ext'; simp
    split at hc
    · rename_i f hcal
      split at hc
      · rename_i fv hfv
        have hex : (execOp e o).run P w = ((Deferred.ofValue (e f) ⟨c.args.toList.map e⟩).run P w).andThen fun d w' => (invoke d.target d.args).run P w' := by
          obtain ⟨d, op, ty, pos, af, gd⟩ := o
          simp only at ho; subst ho
          simp only [execOp, resolve, hcal, harr, Sem.run_bind]
        rw [hex]
        exact callee_ok hN (hρ _ _ hfv) hargs hc
      · simp at hc
    · rename_i r name hcal
      split at hc
      · rename_i t v hr
        split at hc
        · rename_i f hm
          obtain rfl := Option.some.inj hc
          obtain ⟨yv, hyv, hrv⟩ := hρ _ _ hr
          refine ⟨Nat.le_refl _, fun hf' => ⟨yv :: c.args.toList.map e, ?_, VL.cons hyv hargs⟩⟩
          obtain ⟨n, hn⟩ := fuel_pos P
          obtain ⟨d, op, ty, pos, af, gd⟩ := o
          simp only at ho; subst ho
          have hext : ((#[.iface t yv] : Array Value) ++ ⟨c.args.toList.map e⟩).extract 1 (c.args.toList.length + 1) = ⟨c.args.toList.map e⟩ := by
            apply Array.ext'; simp [List.extract_eq_take_drop]; exact List.take_of_length_le (by simp)
          have hz : ((#[.iface t yv] : Array Value) ++ ⟨c.args.toList.map e⟩)[0]? = some (.iface t yv) := by simp
          have harr2 : (#[yv] : Array Value) ++ ⟨c.args.toList.map e⟩ = ⟨yv :: c.args.toList.map e⟩ := by apply Array.ext'; simp
          have hsz : ((#[.iface t yv] : Array Value) ++ ⟨c.args.toList.map e⟩).size = c.args.toList.length + 1 := by simp [Nat.add_comm]
          simp only [execOp, resolve, hcal, harr, Sem.run_bind, hrv, Sem.run_pure, Result.andThen_ok, invoke, hz, hsz, hext, callMethod, run_program, hn, method_ok hm, harr2, callFunc_ok hN hf']
        · simp at hc
      · simp at hc
    · rename_i b hcal
      exact builtin_ok x hρ ho hcal rfl hargs.weak hc hf

theorem out_val {r : Result Value} {s : Sem Next} {o : AV} {h' : Hp} {nx' : Nat} (hr : s.run P w = r.andThen fun a w' => .ok (.value a) w') (k : ∃ y w' τ, r = .ok y w' ∧ V τ o y ∧ HR τ h' w' ∧ Stp σ h w τ h' w' ∧ Ext σ τ nx nx') :
    OutOK P σ h nx w (s.run P w) (.val o h' nx') := by rw [hr]; exact out_map k

theorem valO_eq {o : Option AV} {out : Out} (hv : valO o h nx = some out) : ∃ v, o = some v ∧ out = .val v h nx := by
  unfold valO at hv
  split at hv
  · rename_i v; simp at hv; exact ⟨v, rfl, hv.symm⟩
  · simp at hv

theorem ex_val (s : Sem Value) : (do pure (Next.value (← s)) : Sem Next).run P w = (s.run P w).andThen fun a w' => .ok (.value a) w' := by simp

/-- What is found among a map's entries. -/
def RelF (σ : Sg) : Option (Nat × AV) → Option (Nat × Value) → Prop
  | none, none => True
  | some (i, a), some (j, v) => i = j ∧ V σ a v
  | _, _ => False

theorem MR.cons_inv {σ : Sg} {k v : AV} {n : Nat} {es : List (AV × AV × Nat)} {l : List MapEntry} (h : MR σ ((k, v, n) :: es) l) : ∃ e l', l = e :: l' ∧ V σ k e.key ∧ V σ v e.val ∧ e.born = n ∧ MR σ es l' := by
  obtain ⟨h1, h2⟩ := h
  cases l with
  | nil => simp at h1
  | cons e l =>
    obtain ⟨a, b, c⟩ := h2 0 k v n e rfl rfl
    exact ⟨e, l, rfl, a, b, c, by simpa using h1, fun i k' v' n' e' ha hb => h2 (i + 1) k' v' n' e' (by simpa using ha) (by simpa using hb)⟩
theorem MR.mk_cons {σ : Sg} {k v : AV} {n : Nat} {es : List (AV × AV × Nat)} {e : MapEntry} {l : List MapEntry} (h1 : V σ k e.key) (h2 : V σ v e.val) (h3 : e.born = n) (h : MR σ es l) : MR σ ((k, v, n) :: es) (e :: l) := by
  refine ⟨by simp [h.1], fun i k' v' n' e' ha hb => ?_⟩
  cases i with
  | zero => simp at ha hb; obtain ⟨rfl, rfl, rfl⟩ := ha; subst hb; exact ⟨h1, h2, h3⟩
  | succ i => exact h.2 i k' v' n' e' (by simpa using ha) (by simpa using hb)
theorem MR.nil_inv {σ : Sg} {l : List MapEntry} (h : MR σ [] l) : l = [] := List.length_eq_zero_iff.1 h.1.symm

theorem findA_plain {P : Program} {σ : Sg} {kt : TypeId} {kd : TypeDesc} {kv : Value} (hp : plainK kd = true) : ∀ {es : List (AV × AV × Nat)} {l : List MapEntry} {i : Nat} {r : Option (Nat × AV)}, MR σ es l → findA P kt kd kv es i = some r → ∃ r', Instr.findNow kd kv l i = some r' ∧ RelF σ r r'
  | [], l, i, r, m, h => by
    obtain rfl := m.nil_inv
    simp only [findA, Option.some.injEq] at h; subst h
    exact ⟨none, rfl, trivial⟩
  | (k, v, n) :: es, l, i, r, m, h => by
    obtain ⟨e, l', rfl, h1, h2, h3, h4⟩ := m.cons_inv
    unfold findA at h
    split at h
    · rename_i ek hk
      have he := toV_ok hk h1
      have hq : keyEq P kt kd kv ek = Instr.sameNow kd kv e.key := by simp [keyEq, hp, he]
      rw [hq] at h
      split at h
      · rename_i hs
        simp only [Option.some.injEq] at h; subst h
        exact ⟨some (i, e.val), by simp [Instr.findNow, hs], rfl, h2⟩
      · rename_i hs
        obtain ⟨r', q1, q2⟩ := findA_plain hp h4 h
        exact ⟨r', by simp [Instr.findNow, hs, q1], q2⟩
      · simp at h
    · simp at h

theorem findA_struct {P : Program} {σ : Sg} {kt : TypeId} {kd : TypeDesc} {kv : Value} (hp : plainK kd = false) (hs : structK kd = true) (w : World) : ∀ {es : List (AV × AV × Nat)} {l : List MapEntry} {i : Nat} {r : Option (Nat × AV)}, MR σ es l → findA P kt kd kv es i = some r → ∃ r', (Instr.findAsking kt kv l i).run P w = .ok r' w ∧ RelF σ r r'
  | [], l, i, r, m, h => by
    obtain rfl := m.nil_inv
    simp only [findA, Option.some.injEq] at h; subst h
    exact ⟨none, by simp [Instr.findAsking], trivial⟩
  | (k, v, n) :: es, l, i, r, m, h => by
    obtain ⟨e, l', rfl, h1, h2, h3, h4⟩ := m.cons_inv
    unfold findA at h
    split at h
    · rename_i ek hk
      have he := toV_ok hk h1
      have hq : keyEq P kt kd kv ek = pureOf P (Op.equal kt kv e.key) := by simp [keyEq, hp, hs, he]
      rw [hq] at h
      split at h
      · rename_i hs'
        simp only [Option.some.injEq] at h; subst h
        exact ⟨some (i, e.val), by simp [Instr.findAsking, pureOf_ok w hs'], rfl, h2⟩
      · rename_i hs'
        obtain ⟨r', q1, q2⟩ := findA_struct hp hs w h4 h
        exact ⟨r', by simp [Instr.findAsking, pureOf_ok w hs', q1], q2⟩
      · simp at h
    · simp at h

theorem keyed_ok {P : Program} {σ : Sg} {kt : TypeId} {empty : Bool} {es : List (AV × AV × Nat)} {l : List MapEntry} {k : AV} {kv : Value} {r : Option (Nat × AV)} (w : World) (m : MR σ es l) (hk : V σ k kv) (h : keyed P kt empty es k = some r) :
    (Instr.checkKey empty 10000 kt kv).run P w = .ok () w ∧ ∃ r', (Instr.findKey kt kv l).run P w = .ok r' w ∧ RelF σ r r' := by
  unfold keyed at h
  split at h
  · rename_i kv' kd h1 h2
    have he := toV_ok h1 hk
    subst he
    cases hb : ((plainK kd || structK kd) && unitOK (pureOf P (Instr.checkKey empty 10000 kt kv))) with
    | false => simp [hb] at h
    | true =>
      simp only [hb, cond_true] at h
      simp only [Bool.and_eq_true] at hb
      obtain ⟨hb1, hb2⟩ := hb
      refine ⟨?_, ?_⟩
      · cases hp : pureOf P (Instr.checkKey empty 10000 kt kv) with
        | none => simp [hp, unitOK] at hb2
        | some u => exact pureOf_ok w hp
      · cases hp : plainK kd with
        | true =>
          obtain ⟨r', q1, q2⟩ := findA_plain hp m h
          exact ⟨r', by simp [Instr.findKey, run_under h2, q1], q2⟩
        | false =>
          have hs : structK kd = true := by simpa [hp] using hb1
          obtain ⟨r', q1, q2⟩ := findA_struct hp hs w m h
          cases l with
          | nil =>
            refine ⟨r', ?_, q2⟩
            simp only [Instr.findAsking, Sem.run_pure, Result.ok.injEq, and_true] at q1
            subst q1
            simp [Instr.findKey, run_under h2, Instr.findNow]
          | cons e l =>
            refine ⟨r', ?_, q2⟩
            have hn : Instr.findNow kd kv (e :: l) 0 = none := by
              cases kd <;> simp [structK] at hs
              simp [Instr.findNow, Instr.sameNow]
            simp [Instr.findKey, run_under h2, hn, q1]
  · simp at h

theorem setE_ok {σ : Sg} {k x : AV} {kv xv : Value} (hk : V σ k kv) (hx : V σ x xv) : ∀ {es : List (AV × AV × Nat)} {i : Nat} {k0 : AV} {es' : List (AV × AV × Nat)} {l : List MapEntry}, MR σ es l → setE k x es i = some (k0, es') →
    ∃ e, l[i]? = some e ∧ V σ k0 e.key ∧ MR σ es' (l.modify i fun e => { e with key := kv, val := xv })
  | [], i, k0, es', l, m, h => by simp [setE] at h
  | (k1, v, n) :: es, 0, k0, es', l, m, h => by
    obtain ⟨e, l', rfl, h1, h2, h3, h4⟩ := m.cons_inv
    simp only [setE, Option.some.injEq, Prod.mk.injEq] at h
    obtain ⟨rfl, rfl⟩ := h
    exact ⟨e, rfl, h1, by simpa using MR.mk_cons (e := { e with key := kv, val := xv }) hk hx h3 h4⟩
  | (k1, v, n) :: es, i + 1, k0, es', l, m, h => by
    obtain ⟨e, l', rfl, h1, h2, h3, h4⟩ := m.cons_inv
    simp only [setE] at h
    split at h
    · rename_i k2 es2 hs
      simp only [Option.some.injEq, Prod.mk.injEq] at h
      obtain ⟨rfl, rfl⟩ := h
      obtain ⟨e', q1, q2, q3⟩ := setE_ok hk hx h4 hs
      exact ⟨e', by simpa using q1, q2, by simpa using MR.mk_cons h1 h2 h3 q3⟩
    · simp at h
theorem MR.push {σ : Sg} {es : List (AV × AV × Nat)} {l : List MapEntry} {k x : AV} {n : Nat} {e : MapEntry} (m : MR σ es l) (h1 : V σ k e.key) (h2 : V σ x e.val) (h3 : e.born = n) : MR σ (es ++ [(k, x, n)]) (l ++ [e]) := by
  refine ⟨by simp [m.1], fun i k' v' n' e' ha hb => ?_⟩
  have hl := m.1
  rcases Nat.lt_or_ge i es.length with hi | hi
  · rw [List.getElem?_append_left hi] at ha
    rw [List.getElem?_append_left (by omega)] at hb
    exact m.2 i k' v' n' e' ha hb
  · rw [List.getElem?_append_right hi] at ha
    rw [List.getElem?_append_right (by omega)] at hb
    have hi0 : i - es.length = 0 := by
      rcases Nat.eq_zero_or_pos (i - es.length) with z | z
      · exact z
      · rw [List.getElem?_eq_none (by simp; omega)] at ha; simp at ha
    have hi1 : i - l.length = 0 := by omega
    rw [hi0] at ha; rw [hi1] at hb
    simp at ha hb
    obtain ⟨rfl, rfl, rfl⟩ := ha; subst hb
    exact ⟨h1, h2, h3⟩
theorem emptyL_ok {σ : Sg} {es : List (AV × AV × Nat)} {ents : Array MapEntry} (m : MR σ es ents.toList) : emptyL es = ents.isEmpty := by
  have h1 := m.1
  cases es with
  | nil => simp at h1; simp [emptyL, Array.isEmpty, ← h1]
  | cons a l =>
    have : ents.isEmpty = false := by
      rw [Array.isEmpty_eq_false_iff]
      rintro rfl
      simp at h1
    rw [this]; rfl

theorem run_setO {P : Program} {w : World} {b : Nat} {o : Obj} {e : Array MapEntry} {c : Nat} (h : w.heap[b]? = some (.map e c)) : (setObj b o).run P w = .ok () { w with heap := w.heap.setIfInBounds b o } := by
  simp [setObj, Sem.run, h]
theorem mapUpdate_ok {P : Program} {σ : Sg} {h : Hp} {nx : Nat} {w : World} (x : HR σ h w) {t : TypeId} {m k z : AV} {mv kv zv : Value} (hm : V σ m mv) (hk : V σ k kv) (hz : V σ z zv) {out : Out} (ha : mapUpdateCase P t m k z h nx = some out) :
    ∃ h' w', out = .skip h' nx ∧ (Instr.mapUpdate t mv kv zv).run P w = .ok () w' ∧ HR σ h' w' ∧ Stp σ h w σ h' w' := by
  unfold mapUpdateCase at ha
  split at ha
  · rename_i kt el id ht
    obtain ⟨b, o, n, g1, rfl⟩ := hm
    split at ha
    · rename_i es clk hg
      obtain ⟨b', o', n', ents, g1', g2, g3⟩ := x.has _ _ hg
      rw [g1] at g1'; simp at g1'; obtain ⟨rfl, rfl, rfl⟩ := g1'
      have hlt : b < w.heap.size := (Array.getElem?_eq_some_iff.1 g2).1
      have hget : (getObj b).run P w = .ok (.map ents clk) w := by simp [getObj, Sem.run, g2]
      split at ha
      · rename_i hky
        obtain rfl := Option.some.inj ha
        obtain ⟨c1, r', c2, c3⟩ := keyed_ok w g3 hk hky
        have : r' = none := by cases r' <;> simp_all [RelF]
        subst this
        have hset := x.put (w' := { w with heap := w.heap.setIfInBounds b (.map (ents.push { key := kv, val := zv, born := clk }) (clk + 1)) }) hg rfl g1 rfl rfl rfl (by simp) (fun c hc => by simp [Array.getElem?_setIfInBounds, Ne.symm hc]) (blk := .amap (es ++ [(k, z, clk)]) (clk + 1)) ⟨b, o, n, ents.push { key := kv, val := zv, born := clk }, g1, by simp [Array.getElem?_setIfInBounds, hlt], by simpa using g3.push (e := { key := kv, val := zv, born := clk }) hk hz rfl⟩
        refine ⟨_, _, rfl, ?_, hset.1, hset.2⟩
        simp [Instr.mapUpdate, run_under ht, hget, c1, c2, run_setO g2]
      · rename_i i a hky
        obtain ⟨c1, r', c2, c3⟩ := keyed_ok w g3 hk hky
        split at ha
        · rename_i k0 es' hse
          cases hsk : sameK k0 k with
          | false => simp [hsk] at ha
          | true =>
            simp only [hsk, cond_true] at ha
            obtain rfl := Option.some.inj ha
            obtain ⟨e, q1, q2, q3⟩ := setE_ok hk hz g3 hse
            rcases r' with _ | ⟨j, v⟩
            · simp [RelF] at c3
            obtain ⟨rfl, c4⟩ := c3
            have hsb : Instr.sameBits 10000 e.key kv = true := by
              unfold sameK at hsk
              split at hsk
              · rename_i a1 a2 e1 e2
                rw [toV_ok e1 q2, toV_ok e2 hk]; exact hsk
              · simp at hsk
            have hset := x.put (w' := { w with heap := w.heap.setIfInBounds b (.map (ents.modify i fun e => { e with key := kv, val := zv }) clk) }) hg rfl g1 rfl rfl rfl (by simp) (fun c hc => by simp [Array.getElem?_setIfInBounds, Ne.symm hc]) (blk := .amap es' clk) ⟨b, o, n, ents.modify i fun e => { e with key := kv, val := zv }, g1, by simp [Array.getElem?_setIfInBounds, hlt], by simpa using q3⟩
            refine ⟨_, _, rfl, ?_, hset.1, hset.2⟩
            have q1' : ents[i]? = some e := by simpa using q1
            simp [Instr.mapUpdate, run_under ht, hget, c1, c2, run_setO g2, q1', Instr.keyThatStays, hsb]
        · simp at ha
      · simp at ha
    · simp at ha
  · simp at ha

theorem lookup_ok {P : Program} {σ : Sg} {h : Hp} {nx : Nat} {w : World} (x : HR σ h w) {t : TypeId} {m k : AV} {ok : Bool} {mv kv : Value} (hm : V σ m mv) (hk : V σ k kv) {out : Out} (ha : lookupCase P t m k ok h nx = some out) :
    ∃ a y, out = .val a h nx ∧ (Instr.lookup t mv kv ok).run P w = .ok y w ∧ V σ a y := by
  unfold lookupCase at ha
  split at ha
  · rename_i kt el id ht
    obtain ⟨b, o, n, g1, rfl⟩ := hm
    split at ha
    · rename_i es clk zz hg hz
      obtain ⟨b', o', n', ents, g1', g2, g3⟩ := x.has _ _ hg
      rw [g1] at g1'; simp at g1'; obtain ⟨rfl, rfl, rfl⟩ := g1'
      have hget : (getObj b).run P w = .ok (.map ents clk) w := by simp [getObj, Sem.run, g2]
      obtain ⟨zv, z1, z2, _⟩ := run_zeroValue hz w σ
      rw [emptyL_ok g3] at ha
      split at ha
      · rename_i hky
        obtain rfl := Option.some.inj ha
        obtain ⟨c1, r', c2, c3⟩ := keyed_ok w g3 hk hky
        have : r' = none := by cases r' <;> simp_all [RelF]
        subst this
        cases ok
        · exact ⟨_, zv, rfl, by simp [Instr.lookup, run_under ht, hget, c1, c2, z1], z2⟩
        · exact ⟨.tup [zz, .bool false], .tuple #[zv, .bool false], rfl, by simp [Instr.lookup, run_under ht, hget, c1, c2, z1], [zv, .bool false], VL.cons z2 (VL.cons rfl rfl), rfl⟩
      · rename_i i a hky
        obtain ⟨c1, r', c2, c3⟩ := keyed_ok w g3 hk hky
        rcases r' with _ | ⟨j, v⟩
        · simp [RelF] at c3
        obtain ⟨rfl, c4⟩ := c3
        obtain rfl := Option.some.inj ha
        cases ok
        · exact ⟨_, v, rfl, by simp [Instr.lookup, run_under ht, hget, c1, c2], c4⟩
        · exact ⟨.tup [a, .bool true], .tuple #[v, .bool true], rfl, by simp [Instr.lookup, run_under ht, hget, c1, c2], [v, .bool true], VL.cons c4 (VL.cons rfl rfl), rfl⟩
      · simp at ha
    · simp at ha
  · simp at ha

theorem aop_ok (hN : NoNum P) (x : HR σ h w) {ρ : Rho} {e : Operand → Value} (hρ : ∀ o v, ρ o = some v → V σ v (e o)) {o : Oper} {out : Out} (ha : aop P ρ o h nx = some out) (hf : Fresh σ nx (out.nx nx)) :
    nx ≤ out.nx nx ∧ OutOK P σ h nx w ((execOp e o).run P w) out := by
  have fresh1 : ∀ {n : Nat}, out.nx nx = nx + 1 → σ nx = none := fun hn => hf nx (Nat.le_refl _) (by omega)
  obtain ⟨dst, op, ty, pos, af, gd⟩ := o
  unfold aop at ha
  cases op <;> simp only at ha
  case move z =>
    obtain ⟨v, hv, rfl⟩ := valO_eq ha
    exact ⟨Nat.le_refl _, out_same x rfl (hρ _ _ hv)⟩
  case assign z =>
    obtain ⟨v, hv, rfl⟩ := valO_eq ha
    exact ⟨Nat.le_refl _, out_same x rfl (hρ _ _ hv)⟩
  case pick c a b =>
    split at ha
    · rename_i hc
      obtain ⟨v, hv, rfl⟩ := valO_eq ha
      have := hρ _ _ hc; simp only [V] at this
      exact ⟨Nat.le_refl _, out_same x (by simp [execOp, this, asBool]) (hρ _ _ hv)⟩
    · rename_i hc
      obtain ⟨v, hv, rfl⟩ := valO_eq ha
      have := hρ _ _ hc; simp only [V] at this
      exact ⟨Nat.le_refl _, out_same x (by simp [execOp, this, asBool]) (hρ _ _ hv)⟩
    · simp at ha
  case alloc t =>
    split at ha
    · rename_i z hz
      obtain rfl := Option.some.inj ha
      obtain ⟨zv, z1, z2, _⟩ := run_zeroValue hz w σ
      obtain ⟨τ, t1, t2, t3, t4⟩ := newR_ok x (hf nx (Nat.le_refl _) (by simp [Out.nx])) t z2.cells
      refine ⟨by simp [Out.nx], out_val (ex_val _) ⟨_, _, τ, ?_, ⟨w.heap.size, 0, _, t1, rfl⟩, t2, t3, t4⟩⟩
      simp [Instr.alloc, z1, newVar, newRow]
    · simp at ha
  case box t z =>
    split at ha
    · rename_i v hv
      obtain rfl := Option.some.inj ha
      obtain ⟨τ, t1, t2, t3, t4⟩ := newR_ok x (hf nx (Nat.le_refl _) (by simp [Out.nx])) t (hρ _ _ hv).cells
      refine ⟨by simp [Out.nx], out_val (ex_val _) ⟨_, _, τ, ?_, ⟨w.heap.size, 0, _, t1, rfl⟩, t2, t3, t4⟩⟩
      simp [Instr.box, newVar, newRow]
    · simp at ha
  case build t parts =>
    split at ha
    · rename_i z vs hz hv
      obtain ⟨zv, z1, z2, iz, hiz, hzz⟩ := run_zeroValue hz w σ
      obtain ⟨p1, p2⟩ := parts_ok hρ hv
      split at ha
      · rename_i fs ht
        split at ha
        · rename_i ps hps
          split at ha
          · rename_i cs hcs
            obtain rfl := Option.some.inj ha
            obtain ⟨vs', f1, f2⟩ := fill_ok hcs z2.cells p1 p2
            refine ⟨Nat.le_refl _, out_val (ex_val _) ⟨_, w, σ, ?_, ⟨vs', f2, rfl⟩, x, Stp.refl _ _ _, Ext.refl _ _ _⟩⟩
            refine run_build w t _ ⟨vs'⟩ ?_
            simp only [Program.built, hiz, ht, hzz, places_ok hps]
            rw [show (fun i => ps.toArray[i]?) = (fun i => ps[i]?) from by funext i; simp]
            exact f1
          · simp at ha
        · simp at ha
      · rename_i n el ht
        split at ha
        · rename_i s hs
          split at ha
          · rename_i cs hcs
            obtain rfl := Option.some.inj ha
            obtain ⟨vs', f1, f2⟩ := fill_ok hcs z2.cells p1 p2
            refine ⟨Nat.le_refl _, out_val (ex_val _) ⟨_, w, σ, ?_, ⟨vs', f2, rfl⟩, x, Stp.refl _ _ _, Ext.refl _ _ _⟩⟩
            obtain ⟨ie, hie, rfl⟩ := size?_ok hs
            refine run_build w t _ ⟨vs'⟩ ?_
            simp only [Program.built, hiz, ht, hzz, hie]
            exact f1
          · simp at ha
        · simp at ha
      · simp at ha
    · simp at ha
  case buildSlice t len parts =>
    split at ha
    · rename_i el hel
      have hu := slice?_ok hel
      split at ha
      · rename_i s z vs hs hz hv
        cases hb : (Nat.ble (len * s) 65536 && Nat.beq z.cells.length s) with
        | false => simp [hb] at ha
        | true =>
          simp only [hb, cond_true] at ha
          simp only [Bool.and_eq_true] at hb
          have b1 := Nat.le_of_ble_eq_true hb.1
          have b2 := Nat.eq_of_beq_eq_true hb.2
          split at ha
          · rename_i cs hcs
            obtain rfl := Option.some.inj ha
            obtain ⟨zv, z1, z2, iz, hiz, hzz⟩ := run_zeroValue hz w σ
            obtain ⟨p1, p2⟩ := parts_ok hρ hv
            have hzs : zv.cells.size = s := by rw [← Array.length_toList, ← z2.cells.length, b2]
            obtain ⟨vs', f1, f2⟩ := fill_ok hcs (VL.rep z2.cells len) p1 p2
            obtain ⟨τ, t1, t2, t3, t4⟩ := newR_ok x (hf nx (Nat.le_refl _) (by simp [Out.nx])) el f2
            refine ⟨by simp [Out.nx], out_val (ex_val _) ⟨_, _, τ, ?_, ⟨w.heap.size, 0, _, t1, len, rfl, rfl⟩, t2, t3, t4⟩⟩
            have hbig : ¬ len * s > 16777216 := by omega
            have hmade := madeRow len s zv.cells hzs
            rw [Array.toList_map] at f1
            by_cases h0 : len * s = 0
            · have hemp : (List.replicate len zv.cells.toList).flatten = [] := by
                apply List.eq_nil_of_length_eq_zero; simp [hzs]; simpa using h0
              rw [hemp] at f1
              simp [Instr.buildSlice, run_under hu, run_sizeOf hs, h0]
              rw [show Array.map (fun _ => (default : Value)) (Array.range 0) = ⟨[]⟩ from by apply Array.ext'; simp]
              simp only [f1]
              simp [newRow]
            · simp [Instr.buildSlice, run_under hu, run_sizeOf hs, hbig, h0, z1, hmade, f1, newRow]
          · simp at ha
      · simp at ha
    · simp at ha
  case load t a =>
    split at ha
    · rename_i id off hp
      obtain ⟨v, hv, rfl⟩ := valO_eq ha
      obtain ⟨b, q, m, g1, hpv⟩ := hρ _ _ hp
      obtain ⟨b', q', m', y, k1, k2, k3⟩ := loadV_ok x hv
      rw [g1] at k1; simp at k1; obtain ⟨rfl, rfl, rfl⟩ := k1
      refine ⟨Nat.le_refl _, out_val (ex_val _) ⟨y, w, σ, ?_, k3, x, Stp.refl _ _ _, Ext.refl _ _ _⟩⟩
      simp [Instr.loadAt, hpv, Instr.sureAddr, k2]
    · simp at ha
  case store t a z =>
    split at ha
    · rename_i id off v s hp hv hs
      cases hb : Nat.beq v.cells.length s with
      | false => simp [hb] at ha
      | true =>
        simp only [hb, cond_true] at ha
        split at ha
        · rename_i h' hst
          obtain rfl := Option.some.inj ha
          have hvv := (hρ _ _ hv).cells
          obtain ⟨b, q, m, g1, hpv⟩ := hρ _ _ hp
          obtain ⟨b', q', m', w', k1, k2, k3, k4⟩ := storeC_ok (P := P) x hst hvv
          rw [g1] at k1; simp at k1; obtain ⟨rfl, rfl, rfl⟩ := k1
          have hsz : (e z).cells.size = s := by rw [← Array.length_toList, ← hvv.length]; exact Nat.eq_of_beq_eq_true hb
          refine ⟨Nat.le_refl _, w', σ, ?_, k3, k4, Ext.refl _ _ _⟩
          simp [execOp, Instr.storeAt, hpv, Instr.sureAddr, storeVar, run_sizeOf hs, hsz, k2]
        · simp at ha
    · simp at ha
  case nilCheck z =>
    split at ha
    · rename_i v hv
      obtain ⟨u, hu, rfl⟩ := valO_eq ha
      have hvv := hρ _ _ hv
      unfold nilCase at hu
      split at hu
      · simp at hu; subst hu
        obtain ⟨b, q, m, g1, hpv⟩ := id hvv
        exact ⟨Nat.le_refl _, out_same x (by simp [execOp, hpv]) (hpv ▸ hvv)⟩
      · simp at hu; subst hu
        obtain ⟨y, hy, hpv⟩ := id hvv
        exact ⟨Nat.le_refl _, out_same x (by simp [execOp, hpv]) (hpv ▸ hvv)⟩
      · simp at hu; subst hu
        obtain ⟨y, y', hy, hy', hpv⟩ := id hvv
        exact ⟨Nat.le_refl _, out_same x (by simp [execOp, hpv]) (hpv ▸ hvv)⟩
      · simp at hu
    · simp at ha
  case binOp bop t a b yt =>
    split at ha
    · rename_i xs ys hag
      have hab : ρ a = some (.agg xs) ∧ ρ b = some (.agg ys) := by
        unfold aggs at hag
        split at hag
        · rename_i h1 h2; simp at hag; obtain ⟨rfl, rfl⟩ := hag; exact ⟨h1, h2⟩
        · simp at hag
      split at ha
      · rename_i r hr
        obtain ⟨us, hu, hue⟩ := hρ _ _ hab.1
        obtain ⟨vs, hv, hve⟩ := hρ _ _ hab.2
        obtain ⟨e1, e2⟩ := eqAgg_ok (P := P) (w := w) hr hu hv
        have hgd : (eqGuard bop t a b (.agg ⟨us⟩) (.agg ⟨vs⟩)).run P w = .ok () w := by
          unfold eqGuard
          cases bop <;> first | rfl | simp [e2]
        split at ha
        · obtain rfl := Option.some.inj ha
          exact ⟨Nat.le_refl _, out_same x (by simp [execOp, hgd, hue, hve, binOp_eql (show nonscal (.agg ⟨us⟩) = true from rfl), e1]) rfl⟩
        · obtain rfl := Option.some.inj ha
          exact ⟨Nat.le_refl _, out_same x (by simp [execOp, hgd, hue, hve, binOp_neq (show nonscal (.agg ⟨us⟩) = true from rfl), e1]) rfl⟩
        · simp at ha
      · exact ground_ok x hρ (fun _ _ k => by simp at k) ha
    split at ha
    · rename_i r hg
      simp at ha; subst ha
      exact ground_ok x hρ (fun _ _ k => by simp at k) hg
    · split at ha
      · rename_i u v hu hv
        split at ha
        · rename_i r hr
          have hu' := hρ _ _ hu
          have hv' := hρ _ _ hv
          obtain ⟨s1, s2⟩ := eqAV_shape hr hu' hv'
          have he := eqAV_ok (P := P) (w := w) hr hu' hv'
          split at ha
          · obtain rfl := Option.some.inj ha
            exact ⟨Nat.le_refl _, out_same x (by simp [execOp, guard_ok s2, binOp_eql s1, he]) rfl⟩
          · obtain rfl := Option.some.inj ha
            exact ⟨Nat.le_refl _, out_same x (by simp [execOp, guard_ok s2, binOp_neq s1, he]) rfl⟩
          · simp at ha
        · simp at ha
      · simp at ha
  case unOp => exact ground_ok x hρ (fun _ _ k => by simp at k) ha
  case convert src dst' z =>
    split at ha
    · rename_i v hv
      exact conv_ok x hρ rfl hv ha hf
    · simp at ha
  case makeInterface t z =>
    split at ha
    · simp at ha
    · rename_i d v hne ht hv
      obtain rfl := Option.some.inj ha
      refine ⟨Nat.le_refl _, out_val (ex_val _) ⟨_, w, σ, ?_, ⟨_, hρ _ _ hv, rfl⟩, x, Stp.refl _ _ _, Ext.refl _ _ _⟩⟩
      cases d <;> first
        | (exact absurd rfl (hne _))
        | simp [Instr.makeInterface, run_under ht]
    · simp at ha
  case makeFunc fn first captured =>
    split at ha
    · rename_i a b h1 h2
      obtain rfl := Option.some.inj ha
      have v1 := valsOf_ok hρ h1
      have v2 := valsOf_ok hρ h2
      refine ⟨Nat.le_refl _, out_same x ?_ ⟨_, _, v1, v2, rfl⟩⟩
      simp only [execOp, Instr.makeFunc]
      simp
      constructor <;> (apply Array.ext'; simp)
    · simp at ha
  case makeMap t r =>
    cases r with
    | some _ => simp at ha
    | none =>
      obtain rfl := Option.some.inj ha
      obtain ⟨y1, y2⟩ := x.new (hf nx (Nat.le_refl _) (by simp [Out.nx])) (blk := .amap [] 0) (obj := .map #[] 0) 0 0 ⟨_, _, _, #[], upd_same _ _ _, alloc_at _ _, rfl, fun i k v n e hh => by simp at hh⟩
      exact ⟨by simp [Out.nx], out_val (ex_val _) ⟨_, _, _, by simp [Instr.makeMap], ⟨_, _, _, upd_same _ _ _, rfl⟩, y1, y2, upd_ext _ _ _⟩⟩
  case makeSlice t l c =>
    split at ha
    · rename_i a b h1 h2
      have := makeSlice_ok x (hρ _ _ h1) (hρ _ _ h2) ha hf
      exact ⟨this.1, by rw [show (execOp e ⟨dst, .makeSlice t l c, ty, pos, af, gd⟩).run P w = _ from ex_val _]; exact this.2⟩
    · simp at ha
  case slice t z lo hi mx =>
    split at ha
    · exact ground_ok x hρ (fun _ _ k => by simp at k) ha
    · rename_i v hns hv
      split at ha
      · rename_i a b c h1 h2 h3
        have := slice_ok x (hρ _ _ hv) (optO_ok hρ h1) (optO_ok hρ h2) (optO_ok hρ h3) ha
        exact ⟨this.1, by rw [show (execOp e ⟨dst, .slice t z lo hi mx, ty, pos, af, gd⟩).run P w = _ from ex_val _]; exact this.2⟩
      · simp at ha
    · simp at ha
  case fieldAddr t z k =>
    split at ha
    · rename_i f id off h1 h2
      split at ha
      · rename_i s hs
        cases hb : Nat.beq s 0 with
        | true => simp [hb] at ha
        | false =>
          simp only [hb, cond_false] at ha
          obtain rfl := Option.some.inj ha
          obtain ⟨fs, ht, hk⟩ := fieldOf_ok h1
          obtain ⟨b, q, m, g1, hpv⟩ := hρ _ _ h2
          have hs0 := Nat.ne_of_beq_eq_false hb
          refine ⟨Nat.le_refl _, out_val (ex_val _) ⟨_, w, σ, ?_, ⟨b, q, m, g1, rfl⟩, x, Stp.refl _ _ _, Ext.refl _ _ _⟩⟩
          simp [Instr.fieldAt, run_under ht, hk, hpv, Instr.sureAddr, fieldPlace, run_sizeOf hs, hs0, addr_add, Nat.add_assoc]
      · simp at ha
    · simp at ha
  case field t z k =>
    split at ha
    · rename_i f cs h1 h2
      obtain ⟨v, hv, rfl⟩ := valO_eq ha
      obtain ⟨fs, ht, hk⟩ := fieldOf_ok h1
      obtain ⟨l', hl, hpv⟩ := hρ _ _ h2
      obtain ⟨y, y1, y2⟩ := partC_ok (P := P) (w := w) hv hl
      refine ⟨Nat.le_refl _, out_val (ex_val _) ⟨y, w, σ, ?_, y2, x, Stp.refl _ _ _, Ext.refl _ _ _⟩⟩
      simp [Instr.field, run_under ht, hk, hpv, asAgg, y1]
    · simp at ha
  case indexAddr t z k =>
    split at ha
    · rename_i a b h1 h2
      have := indexAddr_ok x (hρ _ _ h1) (hρ _ _ h2) ha
      exact ⟨this.1, by rw [show (execOp e ⟨dst, .indexAddr t z k, ty, pos, af, gd⟩).run P w = _ from ex_val _]; exact this.2⟩
    · simp at ha
  case index t z k =>
    split at ha
    · rename_i cs b h1 h2
      split at ha
      · rename_i n el i ht hi
        split at ha
        · rename_i s hs
          cases hb : (decide (0 ≤ i) && decide (i < n)) with
          | false => simp [hb] at ha
          | true =>
            simp only [hb, cond_true] at ha
            simp at hb
            obtain ⟨v, hv, rfl⟩ := valO_eq ha
            obtain ⟨l', hl, hpv⟩ := hρ _ _ h1
            obtain ⟨kk, hkk⟩ := intOf_ok hi (hρ _ _ h2)
            obtain ⟨y, y1, y2⟩ := partC_ok (P := P) (w := w) hv hl
            refine ⟨Nat.le_refl _, out_val (ex_val _) ⟨y, w, σ, ?_, y2, x, Stp.refl _ _ _, Ext.refl _ _ _⟩⟩
            simp [Instr.index, hkk, run_asIntOf, run_under ht, hpv, hb, run_sizeOf hs, y1]
        · simp at ha
      · simp at ha
    · exact ground_ok x hρ (fun _ _ k => by simp at k) ha
  case typeAssert z xt asserted ok =>
    split at ha
    · rename_i v hv
      have := assert_ok (xt := xt) x (hρ _ _ hv) ha
      exact ⟨this.1, by rw [show (execOp e ⟨dst, .typeAssert z xt asserted ok, ty, pos, af, gd⟩).run P w = _ from ex_val _]; exact this.2⟩
    · simp at ha
  case extract z i =>
    split at ha
    · rename_i l hl
      obtain ⟨v, hv, rfl⟩ := valO_eq ha
      obtain ⟨l', hl', hpv⟩ := hρ _ _ hl
      obtain ⟨y, y1, y2⟩ := VL.get hl' hv
      refine ⟨Nat.le_refl _, out_val (ex_val _) ⟨y, w, σ, ?_, y2, x, Stp.refl _ _ _, Ext.refl _ _ _⟩⟩
      simp [Instr.extract, hpv, y1]
    · simp at ha
  case lookup t z k ok =>
    split at ha
    · rename_i a b h1 h2
      obtain ⟨c, y, rfl, h3, h4⟩ := lookup_ok x (hρ _ _ h1) (hρ _ _ h2) ha
      exact ⟨Nat.le_refl _, out_val (ex_val _) ⟨y, w, σ, h3, h4, x, Stp.refl _ _ _, Ext.refl _ _ _⟩⟩
    · simp at ha
  case mapUpdate t m k z =>
    split at ha
    · rename_i a b c h1 h2 h3
      obtain ⟨h', w', rfl, k1, k2, k3⟩ := mapUpdate_ok x (hρ _ _ h1) (hρ _ _ h2) (hρ _ _ h3) ha
      refine ⟨Nat.le_refl _, w', σ, ?_, k2, k3, Ext.refl _ _ _⟩
      simp [execOp, k1]
    · simp at ha
  case call c => exact call_ok hN x hρ rfl ha hf
  all_goals (simp at ha)
end
end
end Go.Proofs.YtgihpgdjkanodaaGreatDoor.Ev

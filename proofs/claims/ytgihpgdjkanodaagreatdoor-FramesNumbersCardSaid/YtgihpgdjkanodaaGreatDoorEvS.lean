/-
  Helper text: regions that draw their order, in our own machine: any order comes to the same; no statement is proved here.
-/
import Derived.Test.YtgihpgdjkanodaaGreatDoorEvR
namespace Go.Proofs.YtgihpgdjkanodaaGreatDoor.Ev
noncomputable section
open Go Go.RowKit

structure Inv (ops : Array Oper) (dsts : List (Nat × Nat)) (st : St) (dr : Dr) (σ0 : Sg) (w0 : World) (L : Nat → Prop) (a : Act) (w : World) (σ : Sg) (k : Nat) (Y : Hf) : Prop where
  cl : Cl ops L
  hv : ∀ r ∈ dr.recs, r.hv = true → (L r.i ↔ r.s < k)
  lt : ∀ r ∈ dr.recs, r.hv = false → r.s < k → L r.i
  kle : k + 1 ≤ dr.Hs.length
  mem : HRf σ Y w
  base : ∀ H, dr.Hs[k]? = some H → Sub H.get Y
  als : ∀ r ∈ dr.recs, L r.i → k ≤ r.s → ∀ blk, r.al = some blk → Y r.lo = some blk
  tms : ∀ r ∈ dr.recs, L r.i → ∀ d, r.d = some d → V σ r.v (a.tmps.getD d undef)
  old : ∀ t v, st.tm.get t = some v → (∀ q ∈ dr.recs, L q.i → q.d ≠ some t) → V σ v (a.tmps.getD t undef)
  size : a.tmps.size = st.nt
  defers : a.defers = []
  glob : ∀ g, g < 1000 → ∃ n, σ g = some (g, 0, n)
  stp : Stpf σ0 st.h.get w0 σ Y w
  ext : Ext σ0 σ st.nx dr.nx
  fresh : ∀ id, st.nx ≤ id → id < dr.nx → (∀ r ∈ dr.recs, L r.i → ¬ (r.lo ≤ id ∧ id < r.hi)) → σ id = none

/-- What is known of a region before it is gone through. -/
structure Known (P : Program) (call : Callee) (ops : Array Oper) (ms : List Nat) (dsts : List (Nat × Nat)) (st : St) (dr : Dr) : Prop where
  msk : masks ops.toList [] = some ms
  drk : DrOK P call ops ms st.tm dsts st.h st.nx dr
  uniq : ∀ r ∈ dr.recs, ∀ q ∈ dr.recs, (r.i = q.i ∨ ∃ d, r.d = some d ∧ q.d = some d) → r = q
  cov : ∀ i, i < ops.size → ∃ r ∈ dr.recs, r.i = i
  dlt : ∀ r ∈ dr.recs, ∀ d, r.d = some d → d < st.nt
  dds : ∀ r ∈ dr.recs, ∀ d, r.d = some d → (r.i, d) ∈ dsts
  tlt : ∀ t v, st.tm.get t = some v → t < st.nt
  ge : 1000 ≤ st.nx

section
variable {P : Program} {call : Callee} {ops : Array Oper} {ms : List Nat} {dsts : List (Nat × Nat)} {st : St} {dr : Dr} {σ0 : Sg} {w0 : World}

theorem put_tmps {a : Act} {d : Option Tmp} {y : Value} {t : Nat} (h : d ≠ some t) : (a.put d y).tmps.getD t undef = a.tmps.getD t undef := by
  cases d with
  | none => rfl
  | some d =>
    have hne : d ≠ t := fun e => h (by rw [e])
    simp [Act.put, Array.getElem?_setIfInBounds_ne hne]

theorem put_def (a : Act) (d : Option Tmp) (y : Value) : (a.put d y).defers = a.defers := by cases d <;> rfl

theorem put_same {a : Act} {d : Nat} {y : Value} (h : d < a.tmps.size) : (a.put (some d) y).tmps.getD d undef = y := by
  simp [Act.put, Array.getD, h]

/-- Behind an operation that is none of the great ones. -/
theorem Inv.light (kn : Known P call ops ms dsts st dr) {L : Nat → Prop} {a : Act} {w w' : World} {σ τ : Sg} {k : Nat} {Y Z : Hf} (x : Inv ops dsts st dr σ0 w0 L a w σ k Y) {r : Rc} (hr : r ∈ dr.recs) (hno : ¬ L r.i)
    {o : Oper} (ho : ops[r.i]? = some o) (hedge : ∀ e ∈ o.after.toList, Region.binds .any e = true → L e.on) (hh : r.hv = false) {y : Value} (hv : V τ r.v y)
    (hm : HRf τ Z w') (hst : Stpf σ Y w τ Z w') (hex : Ext σ τ r.lo r.hi) (hsub : Sub Y Z) (hal : ∀ blk, r.al = some blk → Z r.lo = some blk) (hk : k ≤ r.s) :
    Inv ops dsts st dr σ0 w0 (fun j => L j ∨ j = r.i) (a.put r.d y) w' τ k Z := by
  have hrng := kn.drk.rng r hr
  have hfr : Fresh σ r.lo r.hi := fun id h1 h2 => x.fresh id (by omega) (by omega) fun q hq hq2 => by
    have := kn.drk.apart r hr q hq (fun e => hno (e ▸ hq2))
    omega
  have hle := hex.le hfr
  refine ⟨fun i p hp hi e he hb => ?_, fun q hq hqv => ?_, fun q hq hqv hs => .inl (x.lt q hq hqv hs), x.kle, hm, fun H hH => fun id blk hb => hsub _ _ (x.base H hH _ _ hb), fun q hq hL hs blk hb => ?_, fun q hq hL d hd => ?_, fun t v ht hn => ?_, ?_, (put_def _ _ _).trans x.defers, fun g hg => ?_, x.stp.trans hst, fun id hid => ?_, fun id h1 h2 hall => ?_⟩
  · rcases hi with hi | rfl
    · exact .inl (x.cl i p hp hi e he hb)
    · rw [ho] at hp; obtain rfl := Option.some.inj hp; exact .inl (hedge e he hb)
  · constructor
    · rintro (h | h)
      · exact (x.hv q hq hqv).1 h
      · have := kn.uniq q hq r hr (.inl h); subst this; rw [hh] at hqv; simp at hqv
    · intro h; exact .inl ((x.hv q hq hqv).2 h)
  · rcases hL with hL | hL
    · exact hsub _ _ (x.als q hq hL hs blk hb)
    · have := kn.uniq q hq r hr (.inl hL); subst this; exact hal blk hb
  · rcases hL with hL | hL
    · have hne : r.d ≠ some d := fun e => by
        have := kn.uniq q hq r hr (.inr ⟨d, hd, e⟩); subst this; exact hno hL
      rw [put_tmps hne]
      exact V.mono hle _ _ (x.tms q hq hL d hd)
    · have := kn.uniq q hq r hr (.inl hL); subst this
      rw [hd, put_same (by rw [x.size]; exact kn.dlt q hq d hd)]
      exact hv
  · have hne : r.d ≠ some t := hn r hr (.inr rfl)
    rw [put_tmps hne]
    exact V.mono hle _ _ (x.old t v ht fun q hq hL => hn q hq (.inl hL))
  · have := x.size
    cases r.d <;> simpa [Act.put] using this
  · obtain ⟨n, hn⟩ := x.glob g hg; exact ⟨n, hle _ _ hn⟩
  · rw [hex id (by omega)]; exact x.ext id hid
  · have hnr := hall r hr (.inr rfl)
    rw [hex id (by omega)]
    exact x.fresh id h1 h2 fun q hq hL => hall q hq (.inl hL)

theorem Inv.stage (kn : Known P call ops ms dsts st dr) {L : Nat → Prop} {a : Act} {w : World} {σ : Sg} {k : Nat} {Y : Hf} (x : Inv ops dsts st dr σ0 w0 L a w σ k Y) {r : Rc} (hr : r ∈ dr.recs) (hno : ¬ L r.i) : k ≤ r.s := by
  rcases Nat.lt_or_ge r.s k with h | h
  · exfalso
    cases hh : r.hv with
    | true => exact hno ((x.hv r hr hh).2 h)
    | false => exact hno (x.lt r hr hh h)
  · exact h

theorem step_ok (hN : NoNum P) (hcal : CalOK P call) (kn : Known P call ops ms dsts st dr) {L : Nat → Prop} {a : Act} {w : World} {σ : Sg} {k : Nat} {Y : Hf} (x : Inv ops dsts st dr σ0 w0 L a w σ k Y) {i : Nat} {o : Oper} (hno : ¬ L i)
    (ho : ops[i]? = some o) (hedge : ∀ e ∈ o.after.toList, Region.binds .any e = true → L e.on) {K : Act → World → Prop} {Q : Exit → Act → World → Prop}
    (hK : ∀ a' w' τ k' Z, Inv ops dsts st dr σ0 w0 (fun j => L j ∨ j = i) a' w' τ k' Z → K a' w') : wpOp P ops Q i K a w := by
  have hsz : i < ops.size := by
    rcases Nat.lt_or_ge i ops.size with h | h
    · exact h
    · rw [Array.getElem?_eq_none h] at ho; simp at ho
  obtain ⟨r, hr, rfl⟩ := kn.cov i hsz
  have hk := x.stage kn hr hno
  have hrng := kn.drk.rng r hr
  have hge := kn.ge
  obtain ⟨o', look, ho', hd, hseen, hcase⟩ := (kn.drk.recs r hr).is
  rw [ho] at ho'; obtain rfl := Option.some.inj ho'
  have hanc : ∀ j, anc ms r.i j → L j := masks_ok kn.msk x.cl r.i o ho hedge
  have hlook : ∀ t v, look t = some v → V σ v (a.tmps.getD t undef) := fun t v hv => by
    rcases hseen t v hv with ⟨q, hq, h1, h2, rfl⟩ | ⟨h1, h2⟩
    · exact x.tms q hq (hanc _ h2) t h1
    · refine x.old t v h1 fun q hq hL e => hno ?_
      obtain ⟨oq, _, hoq, _⟩ := (kn.drk.recs q hq).is
      exact masks_ok kn.msk x.cl q.i oq hoq (x.cl q.i oq hoq hL) _ (h2 _ (kn.dds q hq t e) rfl)
  have hlt : ∀ t v, look t = some v → t < a.tmps.size := fun t v hv => by
    rw [x.size]
    rcases hseen t v hv with ⟨q, hq, h1, h2, rfl⟩ | ⟨h1, h2⟩
    · exact kn.dlt q hq t h1
    · exact kn.tlt t v h1
  have hρ : ∀ z v, rhoR look z = some v → V σ v (a.eval z) := fun z v hv => by
    cases z with
    | tmp t => exact hlook t v hv
    | const c => exact ofV_ok hv
    | global g =>
      simp only [rhoR] at hv
      cases hb : Nat.blt g 1000 with
      | false => simp [hb] at hv
      | true =>
        simp only [hb, cond_true] at hv
        obtain rfl := Option.some.inj hv
        obtain ⟨n, hn⟩ := x.glob g (by simpa [Nat.blt_eq] using hb)
        exact ⟨g, 0, n, hn, rfl⟩
    | func f => simp only [rhoR] at hv; obtain rfl := Option.some.inj hv; exact ⟨[], [], rfl, rfl, rfl⟩
  have hleaf : HR σ .leaf w := ⟨fun id blk h => by simp [Tr.get_leaf, Tr.get_zero, Tr.get_succ] at h, fun i j bi bj p q h => by simp [Tr.get_leaf, Tr.get_zero, Tr.get_succ] at h⟩
  have hleafsub : Sub (Tr.leaf : Hp).get Y := fun id blk h => by simp [Tr.get_leaf, Tr.get_zero, Tr.get_succ] at h
  have hempty : r.lo = r.hi → ∀ {τ : Sg}, Ext σ τ 0 0 → Ext σ τ r.lo r.hi := fun _ τ h id _ => h id (by omega)
  rcases hcase with ⟨hw, hv, hlh, hal, hh⟩ | ⟨hw, kind⟩
  · have hwt := wantedR_ok (ops := ops) (o := o) hlook hlt hw
    simp only [wpOp, ho, hwt]
    rw [← hd]
    exact hK _ _ σ k Y (x.light kn hr hno ho hedge hh (by rw [hv]; exact ⟨[], rfl, rfl⟩) x.mem (Stpf.refl _ _ _) (Ext.refl _ _ _) (fun _ _ h => h) (fun b hb => by rw [hal] at hb; simp at hb) hk)
  · have hwt := wantedR_ok (ops := ops) (o := o) hlook hlt hw
    simp only [wpOp, ho, hwt]
    refine .inl ?_
    cases kind with
    | still hh hlh hal h =>
      obtain ⟨_, y, w', τ, hrun, h1, h2, h3, h4⟩ := aop_ok hN hleaf hρ (h .leaf 0) (fun id p q => absurd q (by simp [Out.nx]))
      simp only [Oper.wp, hrun, Oper.upon_value]
      rw [← hd]
      have hle : Le σ τ := fun id p hp => by rw [h4 id (by omega)]; exact hp
      obtain ⟨f1, f2⟩ := frame x.mem hleafsub h2 h3 hle
      refine hK _ _ τ k _ (x.light kn hr hno ho hedge hh h1 f1 f2 (hempty hlh h4) (fun id blk hb => ?_) (fun b hb => by rw [hal] at hb; simp at hb) hk)
      simpa [glue, Tr.get_leaf, Tr.get_zero, Tr.get_succ] using hb
    | make hh hlh blk hal hg hn h =>
      have hfr : Fresh σ r.lo (r.lo + 1) := fun id h1 h2 => x.fresh id (by omega) (by omega) fun q hq hq2 => by
        have := kn.drk.apart r hr q hq (fun e => hno (e ▸ hq2))
        omega
      obtain ⟨_, y, w', τ, hrun, h1, h2, h3, h4⟩ := aop_ok hN hleaf hρ h hfr
      simp only [Oper.wp, hrun, Oper.upon_value]
      rw [← hd]
      obtain ⟨f1, f2⟩ := frame x.mem hleafsub h2 h3 (h4.le hfr)
      have hz : glue .leaf (Tr.leaf.set fuelT r.lo (some blk)) Y r.lo = some blk := by simp only [glue, hg]
      refine hK _ _ τ k _ (x.light kn hr hno ho hedge hh h1 f1 f2 (by rw [hlh]; exact h4) (fun id b hb => ?_) (fun b hb => by rw [hal] at hb; obtain rfl := Option.some.inj hb; exact hz) hk)
      have hne : id ≠ r.lo := fun e => by
        obtain ⟨p, hp, _⟩ := (x.mem.has id b hb).lt
        rw [e, hfr r.lo (Nat.le_refl _) (by omega)] at hp; simp at hp
      have hnone : (Tr.leaf.set fuelT r.lo (some blk)).get id = none := by
        cases hc : (Tr.leaf.set fuelT r.lo (some blk)).get id with
        | none => rfl
        | some c =>
          rcases Tr.get_set _ _ _ _ _ _ hc with ⟨e, _⟩ | ⟨_, e⟩
          · exact absurd e hne
          · simp [Tr.get_leaf, Tr.get_zero, Tr.get_succ] at e
      simp only [glue, hnone, Tr.get_leaf, Tr.get_zero, Tr.get_succ]; exact hb
    | read hh hlh hal h =>
      obtain ⟨X, hs, hx⟩ := h k (fun q hq hqv ha => (x.hv q hq hqv).1 (hanc _ ha)) hk
      have hsub : Sub X.get Y := fun id b hb => by
        rcases hs id b hb with ⟨H, hH, hb⟩ | ⟨q, hq, _, ha, hqs, hqa, rfl⟩
        · exact x.base H hH id b hb
        · exact x.als q hq (hanc _ ha) hqs b hqa
      obtain ⟨_, y, w', τ, hrun, h1, h2, h3, h4⟩ := aop_ok hN (x.mem.sub hsub) hρ hx (fun id p q => absurd q (by simp [Out.nx]))
      simp only [Oper.wp, hrun, Oper.upon_value]
      rw [← hd]
      have hle : Le σ τ := fun id p hp => by rw [h4 id (by omega)]; exact hp
      obtain ⟨f1, f2⟩ := frame x.mem hsub h2 h3 hle
      refine hK _ _ τ k _ (x.light kn hr hno ho hedge hh h1 f1 f2 (hempty hlh h4) (fun id b hb => ?_) (fun b hb => by rw [hal] at hb; simp at hb) hk)
      unfold glue
      cases hc : X.get id with
      | none => simp only [hc]; exact hb
      | some c => simp only [hc]; rw [hsub id c hc] at hb; exact hb
    | great hh hlh hal X H hs hH h =>
      have hks : k = r.s := by
        refine Nat.le_antisymm hk ?_
        rcases Nat.eq_zero_or_pos r.s with h0 | h0
        · omega
        · obtain ⟨q, hq, hqv, hqs⟩ := kn.drk.all (r.s - 1) (by have := (kn.drk.stg r hr).1; omega)
          have hne : q.i ≠ r.i := fun e => by have := kn.uniq q hq r hr (.inl e); subst this; omega
          have := (x.hv q hq hqv).1 (hanc _ (kn.drk.ord q hq r hr hh hne (.inr ⟨hqv, by omega⟩)))
          omega
      have hsub : Sub X.get Y := fun id b hb => by
        rcases hs id b hb with ⟨H, hH, hb⟩ | ⟨q, hq, _, ha, hqs, hqa, rfl⟩
        · exact x.base H (by rw [hks]; exact hH) id b hb
        · exact x.als q hq (hanc _ ha) (by omega) b hqa
      have hfr : Fresh σ r.lo r.hi := fun id h1 h2 => x.fresh id (by omega) (by omega) fun q hq hq2 => by
        have := kn.drk.apart r hr q hq (fun e => hno (e ▸ hq2))
        omega
      obtain ⟨_, hwp⟩ := aStep_ok hN hcal (x.mem.sub hsub) hρ x.glob (by omega) h (fun _ => hfr)
      refine hwp K Q fun τ y w' h1 h2 h3 h4 => ?_
      rw [← hd]
      have hle := h4.le hfr
      obtain ⟨f1, f2⟩ := frame x.mem hsub h2 h3 hle
      refine hK _ _ τ (k + 1) _ ⟨fun i p hp hi e he hb => ?_, fun q hq hqv => ?_, fun q hq hqv hs' => ?_, by have := (kn.drk.stg r hr).2 hh; omega, f1, fun H' hH' => ?_, fun q hq hL hqs blk hb => ?_, fun q hq hL d hdd => ?_, fun t v ht hn => ?_, ?_, (put_def _ _ _).trans x.defers, fun g hg => ?_, x.stp.trans f2, fun id hid => ?_, fun id g1 g2 hall => ?_⟩
      · rcases hi with hi | rfl
        · exact .inl (x.cl i p hp hi e he hb)
        · rw [ho] at hp; obtain rfl := Option.some.inj hp; exact .inl (hedge e he hb)
      · constructor
        · rintro (hL | hL)
          · have := (x.hv q hq hqv).1 hL; omega
          · have := kn.uniq q hq r hr (.inl hL); subst this; omega
        · intro hlt'
          rcases Nat.lt_or_ge q.s k with h5 | h5
          · exact .inl ((x.hv q hq hqv).2 h5)
          · exact .inr (kn.drk.hvu q hq r hr hqv hh (by omega))
      · rcases Nat.lt_or_ge q.s k with h5 | h5
        · exact .inl (x.lt q hq hqv h5)
        · have hne : q.i ≠ r.i := fun e => by have := kn.uniq q hq r hr (.inl e); subst this; rw [hh] at hqv; simp at hqv
          exact .inl (hanc _ (kn.drk.ord q hq r hr hh hne (.inl (by omega))))
      · rw [hks, hH] at hH'; obtain rfl := Option.some.inj hH'
        intro id b hb; simp only [glue, hb]
      · rcases hL with hL | hL
        · have hY := x.als q hq hL (by omega) blk hb
          have hmake : ∀ j, j ≤ q.s → ∀ H, dr.Hs[j]? = some H → H.get q.lo = none := by
            obtain ⟨oq, lq, _, _, _, hcq⟩ := (kn.drk.recs q hq).is
            rcases hcq with ⟨_, _, _, e, _⟩ | ⟨_, kq⟩
            · rw [e] at hb; simp at hb
            · cases kq with
              | still _ _ e _ => rw [e] at hb; simp at hb
              | make _ _ _ _ _ hn _ => exact hn
              | read _ _ e _ => rw [e] at hb; simp at hb
              | great _ _ e => rw [e] at hb; simp at hb
          have hXn : X.get q.lo = none := by
            cases hc : X.get q.lo with
            | none => rfl
            | some c =>
              rcases hs q.lo c hc with ⟨H2, hH2, hb2⟩ | ⟨q2, hq2, h6, ha, _, hqa, he⟩
              · rw [hmake r.s (by omega) H2 hH2] at hb2; simp at hb2
              · have hlo : q2 = q := by
                  by_cases e : q2.i = q.i
                  · exact kn.uniq q2 hq2 q hq (.inl e)
                  · exfalso
                    have hap := kn.drk.apart q2 hq2 q hq e
                    have one : ∀ z ∈ dr.recs, ∀ b, z.al = some b → z.hi = z.lo + 1 := fun z hz b hzb => by
                      obtain ⟨oq, lq, _, _, _, hcq⟩ := (kn.drk.recs z hz).is
                      rcases hcq with ⟨_, _, _, e, _⟩ | ⟨_, kq⟩
                      · rw [e] at hzb; simp at hzb
                      · cases kq with
                        | still _ _ e _ => rw [e] at hzb; simp at hzb
                        | make _ e _ _ _ _ _ => exact e
                        | read _ _ e _ => rw [e] at hzb; simp at hzb
                        | great _ _ e => rw [e] at hzb; simp at hzb
                    have e1 := one q2 hq2 _ hqa
                    have e2 := one q hq _ hb
                    omega
                subst hlo; omega
          have hHn : H.get q.lo = none := hmake (r.s + 1) (by omega) H hH
          simp only [glue, hHn, hXn]; exact hY
        · have := kn.uniq q hq r hr (.inl hL); subst this; rw [hal] at hb; simp at hb
      · rcases hL with hL | hL
        · have hne : r.d ≠ some d := fun e => by
            have := kn.uniq q hq r hr (.inr ⟨d, hdd, e⟩); subst this; exact hno hL
          rw [put_tmps hne]
          exact V.mono hle _ _ (x.tms q hq hL d hdd)
        · have := kn.uniq q hq r hr (.inl hL); subst this
          rw [hdd, put_same (by rw [x.size]; exact kn.dlt q hq d hdd)]
          exact h1
      · have hne : r.d ≠ some t := hn r hr (.inr rfl)
        rw [put_tmps hne]
        exact V.mono hle _ _ (x.old t v ht fun q hq hL => hn q hq (.inl hL))
      · have := x.size
        cases r.d <;> simpa [Act.put] using this
      · obtain ⟨n, hn⟩ := x.glob g hg; exact ⟨n, hle _ _ hn⟩
      · rw [h4 id (by omega)]; exact x.ext id hid
      · have hnr := hall r hr (.inr rfl)
        rw [h4 id (by omega)]
        exact x.fresh id g1 g2 fun q hq hL => hall q hq (.inl hL)
end
end
end Go.Proofs.YtgihpgdjkanodaaGreatDoor.Ev

/-
  Helper text: operations of our own machine, the second part; no statement is proved here.
-/
import Derived.Test.YtochkonjfhhiiaaEvG
import Derived.Test.YtochkonjfhhiiaaEvH
import Derived.Laws.Tables
namespace Go.Proofs.Ytochkonjfhhiiaa.Ev
noncomputable section
open Go Go.RowKit

section
variable {P : Program} {σ : Sg} {h : Hp} {nx : Nat} {w : World}

theorem lenS_ok {a : AV} {n : Nat} {v : Value} (hl : lenS a = some n) (hv : V σ a v) : (Builtin.lenOf v).run P w = .ok n w := by
  unfold lenS at hl
  split at hl
  · simp at hl; subst hl; simp only [V] at hv; subst hv; simp [Builtin.lenOf, ByteArray.size]
  · simp at hl; subst hl; simp only [V] at hv; subst hv; simp [Builtin.lenOf]
  · simp at hl; subst hl; obtain ⟨_, _, rfl⟩ := hv; simp [Builtin.lenOf]
  · simp at hl; subst hl; obtain ⟨_, _, _, _, _, rfl, _⟩ := hv; simp [Builtin.lenOf]
  · simp at hl

theorem firstC_ok (x : HR σ h w) {size n : Nat} {a : AV} {l : List AV} {v : Value} (hs : firstC h size n a = some l) (hv : V σ a v) :
    ∃ ys, (Builtin.firstCells size n v).run P w = .ok ⟨ys⟩ w ∧ VL σ l ys := by
  unfold firstC at hs
  split at hs
  · rename_i s
    cases hb : Nat.beq size 1 with
    | false => simp [hb] at hs
    | true =>
      simp only [hb, cond_true] at hs
      obtain rfl := Option.some.inj hs
      simp only [V] at hv; subst hv
      refine ⟨(s.take n).map fun b => .int .u8 b.toNat, ?_, VL.bytes _⟩
      simp only [Builtin.firstCells, ByteArray.data_extract]
      simp [List.extract_eq_take_drop, List.map_take]
  · simp at hs; subst hs; simp only [V] at hv; subst hv
    exact ⟨[], by simp [Builtin.firstCells], rfl⟩
  · cases hn : Nat.beq n 0 with
    | false => simp [hn] at hs
    | true =>
      simp [hn] at hs; subst hs
      obtain rfl := Nat.eq_of_beq_eq_true hn
      obtain ⟨a, k, rfl⟩ := hv
      exact ⟨[], by cases a <;> simp [Builtin.firstCells, loadCells, loadCellsFrom], rfl⟩
  · rename_i id off len c
    obtain ⟨b, o, m, ys, h1, h2, h3, h4⟩ := loadC_ok x (P := P) hs
    obtain ⟨b', o', m', h1', k, rfl, _⟩ := hv
    rw [h1] at h1'; simp at h1'; obtain ⟨rfl, rfl, rfl⟩ := h1'
    exact ⟨ys, by simpa [Builtin.firstCells] using h2, h3⟩
  · simp at hs

theorem copy_ok {argTypes : Array TypeId} {ty : TypeId} {d s : AV} {dv sv : Value} {out : Out} (x : HR σ h w) (hd : V σ d dv) (hs : V σ s sv) (hc : copyCase P argTypes d s h nx = some out) :
    nx ≤ out.nx nx ∧ OutOK P σ h nx w (((Builtin.copy_ argTypes ty #[dv, sv]).run P w).andThen fun a w' => .ok (.value a) w') out := by
  unfold copyCase at hc
  split at hc
  · rename_i dt h0
    split at hc
    · rename_i e he
      have he := slice?_ok he
      split at hc
      · rename_i size ls ld hsz hls hld
        have h1 := lenS_ok (P := P) (w := w) hls hs
        split at hc
        · rename_i l id off len c hl
          split at hc
          · rename_i h' hst
            obtain rfl := Option.some.inj hc
            obtain ⟨ys, f1, f2⟩ := firstC_ok (P := P) x hl hs
            obtain ⟨b, o, m, w', s1, s2, s3, s4⟩ := storeC_ok (P := P) x hst f2
            obtain ⟨b', o', m', g1, k, rfl, _⟩ := hd
            rw [s1] at g1; simp at g1; obtain ⟨rfl, rfl, rfl⟩ := g1
            simp [lenS] at hld; subst hld
            refine ⟨Nat.le_refl _, out_map ⟨_, w', σ, ?_, rfl, s3, s4, Ext.refl _ _ _⟩⟩
            simp [Builtin.copy_, h0, run_under he, h1, run_sizeOf hsz, f1, s2, goInt]
          · simp at hc
        · rename_i l hl
          obtain rfl := Option.some.inj hc
          obtain ⟨ys, f1, f2⟩ := firstC_ok (P := P) x hl hs
          simp only [V] at hd; subst hd
          simp [lenS] at hld; subst hld
          refine ⟨Nat.le_refl _, out_map ⟨_, w, σ, ?_, rfl, x, Stp.refl _ _ _, Ext.refl _ _ _⟩⟩
          rw [show ls.min 0 = 0 from Nat.min_zero ls] at f1 ⊢
          simp [Builtin.copy_, h0, run_under he, h1, run_sizeOf hsz, goInt, f1]
        · simp at hc
      · simp at hc
    · simp at hc
  · simp at hc

def OV (σ : Sg) (o : Option AV) (v : Option Value) : Prop := match o, v with | none, none => True | some a, some u => V σ a u | _, _ => False

/-- A bound, as the model is given it. -/
def BndV (d : Nat) (n : Int) : Option Value → Prop
  | none => n = d
  | some v => ∃ k, v = .int k n

theorem bndA_ok {d : Nat} {o : Option AV} {n : Int} {v : Option Value} (hb : bndA d o = some n) (hv : OV σ o v) : BndV d n v := by
  unfold bndA at hb
  cases o with
  | none => cases v with
    | none => simp at hb; exact hb.symm
    | some u => exact hv.elim
  | some a => cases v with
    | none => exact hv.elim
    | some u => obtain ⟨k, rfl⟩ := intOf_ok hb hv; exact ⟨k, rfl⟩

theorem run_bounds (isS : Bool) {len cap : Nat} {l u m : Int} {lo hi mx : Option Value} (hl : BndV 0 l lo) (hu : BndV len u hi) (hm : BndV cap m mx) (hx : mx = none ∨ hi ≠ none) (hb : okB l u m cap = true) :
    (Instr.sliceBounds isS len cap lo hi mx).run P w = .ok (l.toNat, u.toNat, m.toNat) w := by
  simp only [okB, Bool.and_eq_true, decide_eq_true_eq] at hb
  obtain ⟨⟨⟨h1, h2⟩, h3⟩, h4⟩ := hb
  have e1 : 0 ≤ m := by omega
  have e2 : 0 ≤ u := by omega
  have mm : max m 0 = m := by omega
  have mu : max u 0 = u := by omega
  have hx' : hi = none → mx = none := fun e => hx.resolve_right (fun k => k e)
  cases lo <;> cases hi <;> cases mx
  all_goals (try (have := hx' rfl; simp at this; done))
  all_goals simp only [BndV] at hl hu hm
  all_goals (try (obtain ⟨k1, rfl⟩ := hl)); (try (obtain ⟨k2, rfl⟩ := hu)); (try (obtain ⟨k3, rfl⟩ := hm))
  all_goals (try subst hl); (try subst hu); (try subst hm)
  all_goals simp_all [Instr.sliceBounds, Instr.sliceBound, asIntOf]

theorem OV.isNone {o : Option AV} {v : Option Value} (h : OV σ o v) : o.isNone = v.isNone := by
  cases o <;> cases v <;> simp_all [OV]

theorem cut_ok {s l u m id off : Nat} {c : Cap} {b o n k : Nat} (h1 : σ id = some (b, o, n)) (hc : match c with | .known c => k = c | .opn e => u - l ≤ k ∧ o + (bif Nat.beq m l then off else off + l * s) + k * e = n) :
    V σ (cutA s l u m id off c) (.slice (some (if m = l then ⟨b, o + off, none⟩ else (⟨b, o + off, none⟩ : Addr).add (l * s))) (u - l) k) := by
  refine ⟨b, o, n, h1, k, ?_, hc⟩
  by_cases hm : m = l
  · subst hm; simp
  · have : Nat.beq m l = false := by
      cases hb : Nat.beq m l with
      | false => rfl
      | true => exact absurd (Nat.eq_of_beq_eq_true hb) hm
    simp [hm, this, addr_add, Nat.add_assoc]

theorem slice_ok {t : TypeId} {a : AV} {v : Value} {lo hi mx : Option AV} {lv hv mv : Option Value} {out : Out} (x : HR σ h w) (ha : V σ a v) (hl : OV σ lo lv) (hh : OV σ hi hv) (hm : OV σ mx mv)
    (hc : sliceCase P t a lo hi mx h nx = some out) :
    nx ≤ out.nx nx ∧ OutOK P σ h nx w (((Instr.sliceAt t v lv hv mv).run P w).andThen fun a w' => .ok (.value a) w') out := by
  unfold sliceCase at hc
  split at hc
  · rename_i n e ht
    split at hc
    · rename_i id off
      split at hc
      · rename_i s l u hs hl' hu'
        cases hb : okB l u n n with
        | false => simp [hb] at hc
        | true =>
          simp only [hb, cond_true] at hc
          obtain rfl := Option.some.inj hc
          obtain ⟨b, o, m, g1, rfl⟩ := ha
          have hmv : mv = none := by cases mv with | none => rfl | some _ => exact hm.elim
          subst hmv
          have hr := run_bounds (P := P) (w := w) false (len := n) (cap := n) (lo := lv) (hi := hv) (mx := none) (bndA_ok hl' hl) (bndA_ok hu' hh) rfl (.inl rfl) hb
          refine ⟨Nat.le_refl _, out_map ⟨_, w, σ, ?_, cut_ok g1 rfl, x, Stp.refl _ _ _, Ext.refl _ _ _⟩⟩
          simp [Instr.sliceAt, run_under ht, Instr.sureAddr, hr, run_sizeOf hs]
      · simp at hc
    · simp at hc
  · rename_i e ht
    have hat : ∀ v', (Instr.sliceAt t v' lv hv mv).run P w = (Instr.slice t v' lv hv mv).run P w := fun v' => by simp [Instr.sliceAt, run_under ht]
    rw [hat]
    split at hc
    · rename_i id off len c
      split at hc
      · rename_i s l u m hs hl' hu' hm'
        cases hb : (okB l u m c && (mx.isNone || hi.isSome)) with
        | false => simp [hb] at hc
        | true =>
          simp only [hb, cond_true] at hc
          obtain rfl := Option.some.inj hc
          simp only [Bool.and_eq_true] at hb
          obtain ⟨b, o, k, g1, kk, rfl, g2⟩ := ha
          simp only at g2; subst g2
          have hx : mv = none ∨ hv ≠ none := by
            have := hb.2
            rw [hm.isNone] at this
            cases mv with
            | none => exact .inl rfl
            | some _ => cases hi with
              | none => simp at this
              | some _ => cases hv with
                | none => exact hh.elim
                | some _ => exact .inr (by simp)
          have hr := run_bounds (P := P) (w := w) true (len := len) (cap := kk) (bndA_ok hl' hl) (bndA_ok hu' hh) (bndA_ok hm' hm) hx hb.1
          refine ⟨Nat.le_refl _, out_map ⟨_, w, σ, ?_, cut_ok g1 rfl, x, Stp.refl _ _ _, Ext.refl _ _ _⟩⟩
          simp only [Instr.slice, Sem.run_bind, run_under ht, Result.andThen_ok, hr, run_sizeOf hs]
          simp only [Sem.run_pure]
          congr 2
          split <;> simp_all
      · simp at hc
    · rename_i id off len k
      split at hc
      · rename_i s l u hs hl' hu'
        cases hb : (okB l u len len && (decide (l < len) || decide (l = 0)) && Nat.beq s k) with
        | false =>
          simp only [hb, cond_false] at hc
          cases hb' : (okB l u len len && decide (l = u)) with
          | false => simp [hb'] at hc
          | true =>
            simp only [hb', cond_true] at hc
            obtain rfl := Option.some.inj hc
            simp only [Bool.and_eq_true, decide_eq_true_eq] at hb'
            obtain ⟨hb1, rfl⟩ := hb'
            obtain ⟨b, o, n, g1, kc, rfl, g2, g3⟩ := ha
            have hmv : mv = none := by cases mv with | none => rfl | some _ => exact hm.elim
            subst hmv
            have hb1' : okB l l kc kc = true := by
              simp only [okB, Bool.and_eq_true, decide_eq_true_eq] at hb1 ⊢; omega
            have hr := run_bounds (P := P) (w := w) true (len := len) (cap := kc) (lo := lv) (hi := hv) (mx := none) (bndA_ok hl' hl) (bndA_ok hu' hh) rfl (.inl rfl) hb1'
            refine ⟨Nat.le_refl _, out_map ⟨.slice (some (if kc = l.toNat then ⟨b, o + off, none⟩ else (⟨b, o + off, none⟩ : Addr).add (l.toNat * s))) 0 (kc - l.toNat), w, σ, ?_, ⟨_, _, rfl⟩, x, Stp.refl _ _ _, Ext.refl _ _ _⟩⟩
            simp only [Instr.slice, Sem.run_bind, run_under ht, Result.andThen_ok, hr, run_sizeOf hs]
            simp only [Sem.run_pure, Int.toNat_natCast, Nat.sub_self]
            congr 3
            split <;> simp_all
        | true =>
          simp only [hb, cond_true] at hc
          obtain rfl := Option.some.inj hc
          simp only [Bool.and_eq_true] at hb
          obtain ⟨⟨hb1, hb2⟩, hb3⟩ := hb
          obtain rfl := Nat.eq_of_beq_eq_true hb3
          obtain ⟨b, o, n, g1, kc, rfl, g2, g3⟩ := ha
          have hmv : mv = none := by cases mv with | none => rfl | some _ => exact hm.elim
          subst hmv
          have hb1' : okB l u kc kc = true := by
            simp only [okB, Bool.and_eq_true, decide_eq_true_eq] at hb1 ⊢; omega
          have hr := run_bounds (P := P) (w := w) true (len := len) (cap := kc) (lo := lv) (hi := hv) (mx := none) (bndA_ok hl' hl) (bndA_ok hu' hh) rfl (.inl rfl) hb1'
          simp only [okB, Bool.and_eq_true, decide_eq_true_eq] at hb1
          simp only [Bool.or_eq_true, decide_eq_true_eq] at hb2
          obtain ⟨l', rfl⟩ : ∃ l' : Nat, l = l' := ⟨l.toNat, by omega⟩
          obtain ⟨u', rfl⟩ : ∃ u' : Nat, u = u' := ⟨u.toNat, by omega⟩
          have hmul : l' * s + (kc - l') * s = kc * s := by rw [← Nat.add_mul]; congr 1; omega
          refine ⟨Nat.le_refl _, out_map ⟨_, w, σ, ?_, ⟨b, o, n, g1, kc - l', rfl, by simp; omega, by simp; omega⟩, x, Stp.refl _ _ _, Ext.refl _ _ _⟩⟩
          simp only [Instr.slice, Sem.run_bind, run_under ht, Result.andThen_ok, hr, run_sizeOf hs]
          simp only [Sem.run_pure, Int.toNat_natCast]
          congr 3
          by_cases hk : kc = l'
          · have : l' = 0 := by omega
            subst this; simp [hk]
          · simp [hk, addr_add, Nat.add_assoc]
      · rename_i s l u mm hs hl' hu' 
        split at hc
        · rename_i m hm'
          cases hb : (okB l u m len && hi.isSome) with
          | false => simp [hb] at hc
          | true =>
            simp only [hb, cond_true] at hc
            obtain rfl := Option.some.inj hc
            simp only [Bool.and_eq_true] at hb
            obtain ⟨hb1, hb2⟩ := hb
            obtain ⟨b, o, n, g1, kc, rfl, g2, g3⟩ := ha
            have hb1' : okB l u m kc = true := by
              simp only [okB, Bool.and_eq_true, decide_eq_true_eq] at hb1 ⊢; omega
            have hx : mv = none ∨ hv ≠ none := by
              cases hi with
              | none => simp at hb2
              | some _ => cases hv with
                | none => exact hh.elim
                | some _ => exact .inr (by simp)
            have hr := run_bounds (P := P) (w := w) true (len := len) (cap := kc) (lo := lv) (hi := hv) (mx := mv) (bndA_ok hl' hl) (bndA_ok hu' hh) (bndA_ok (o := some mm) hm' hm) hx hb1'
            refine ⟨Nat.le_refl _, out_map ⟨_, w, σ, ?_, cut_ok g1 rfl, x, Stp.refl _ _ _, Ext.refl _ _ _⟩⟩
            simp only [Instr.slice, Sem.run_bind, run_under ht, Result.andThen_ok, hr, run_sizeOf hs]
            simp only [Sem.run_pure]
            congr 2
            split <;> simp_all
        · simp at hc
      · simp at hc
    · split at hc
      · rename_i l u m hl' hu' hm'
        cases hb : (okB l u m 0 && (mx.isNone || hi.isSome)) with
        | false => simp [hb] at hc
        | true =>
          simp only [hb, cond_true] at hc
          split at hc
          · rename_i s hs
            obtain rfl := Option.some.inj hc
            simp only [Bool.and_eq_true] at hb
            simp only [V] at ha; subst ha
            have hx : mv = none ∨ hv ≠ none := by
              have := hb.2
              rw [hm.isNone] at this
              cases mv with
              | none => exact .inl rfl
              | some _ => cases hi with
                | none => simp at this
                | some _ => cases hv with
                  | none => exact hh.elim
                  | some _ => exact .inr (by simp)
            have hr := run_bounds (P := P) (w := w) true (len := 0) (cap := 0) (bndA_ok hl' hl) (bndA_ok hu' hh) (bndA_ok hm' hm) hx hb.1
            have hb1 := hb.1
            simp only [okB, Bool.and_eq_true, decide_eq_true_eq] at hb1
            have e1 : l = 0 := by omega
            have e2 : u = 0 := by omega
            have e3 : m = 0 := by omega
            subst e1 e2 e3
            refine ⟨Nat.le_refl _, out_map ⟨_, w, σ, ?_, rfl, x, Stp.refl _ _ _, Ext.refl _ _ _⟩⟩
            simp [Instr.slice, run_under ht, hr, run_sizeOf hs]
          · simp at hc
      · simp at hc
    · simp at hc
  · simp at hc
end
end
end Go.Proofs.Ytochkonjfhhiiaa.Ev

/-
  Helper text, several in one; no statement is proved here.
-/
import Derived.Test.YtgihpgdjkanodaaGreatDoorEvS
namespace Go.Proofs.YtgihpgdjkanodaaGreatDoor.Ev
noncomputable section
open Go Go.RowKit

def cntU (l : Array Bool) : Nat → Nat
  | 0 => 0
  | k + 1 => cntU l k + (if l.getD k false then 0 else 1)

theorem getD_set {l : Array Bool} {i j : Nat} (hi : i < l.size) (d : Bool) : (l.setIfInBounds i true).getD j d = if j = i then true else l.getD j d := by
  by_cases h : j = i
  · subst h; simp [Array.getD, hi]
  · rw [if_neg h]
    simp only [Array.getD_eq_getD_getElem?]
    rw [Array.getElem?_setIfInBounds_ne (Ne.symm h)]

theorem cntU_set {l : Array Bool} {i : Nat} (hi : i < l.size) (hn : l.getD i false = false) : ∀ k, (k ≤ i → cntU (l.setIfInBounds i true) k = cntU l k) ∧ (i < k → cntU (l.setIfInBounds i true) k + 1 = cntU l k)
  | 0 => ⟨fun _ => rfl, fun h => by omega⟩
  | k + 1 => by
    obtain ⟨h1, h2⟩ := cntU_set hi hn k
    simp only [cntU, getD_set hi]
    refine ⟨fun h => ?_, fun h => ?_⟩
    · have e : k ≠ i := by omega
      rw [if_neg e, h1 (by omega)]
    · by_cases e : k = i
      · subst e; rw [h1 (Nat.le_refl _)]; simp [hn]
      · rw [if_neg e]; have := h2 (by omega); omega

theorem cntU_zero {l : Array Bool} : ∀ {k : Nat}, cntU l k = 0 → ∀ i, i < k → l.getD i false = true
  | 0, _, i, h => by omega
  | k + 1, hc, i, h => by
    simp only [cntU] at hc
    by_cases e : i = k
    · subst e
      cases hb : l.getD i false with
      | true => rfl
      | false => rw [hb] at hc; simp at hc
    · have h0 : cntU l k = 0 := by split at hc <;> omega
      exact cntU_zero h0 i (by omega)

section
variable {P : Program} {call : Callee} {ops : Array Oper} {ms : List Nat} {dsts : List (Nat × Nat)} {st : St} {dr : Dr} {σ0 : Sg} {w0 : World}

theorem ready_mem {listed : Array Bool} {i : Nat} (h : i ∈ Region.ready .any ops listed) : ∃ o, ops[i]? = some o ∧ listed.getD i true = false ∧ ∀ e ∈ o.after.toList, Region.binds .any e = true → listed.getD e.on false = true := by
  simp only [Region.ready, List.mem_filter, List.mem_range, Bool.and_eq_true, Bool.not_eq_true'] at h
  obtain ⟨h1, h2, h3⟩ := h
  have ho : ops[i]? = some ops[i] := Array.getElem?_eq_getElem h1
  rw [ho] at h3
  refine ⟨_, ho, h2, fun e he hb => ?_⟩
  have h4 : ops[i].after.all (fun e => !Region.binds .any e || listed.getD e.on false) = true := by simpa using h3
  rw [← Array.all_toList] at h4
  have := (List.all_eq_true.1 h4) e he
  simpa [hb] using this

theorem ready_of {listed : Array Bool} {i : Nat} {o : Oper} (hi : i < ops.size) (ho : ops[i]? = some o) (hn : listed.getD i true = false) (he : ∀ e ∈ o.after.toList, Region.binds .any e = true → listed.getD e.on false = true) : i ∈ Region.ready .any ops listed := by
  simp only [Region.ready, List.mem_filter, List.mem_range, Bool.and_eq_true, Bool.not_eq_true']
  refine ⟨hi, hn, ?_⟩
  rw [ho]
  have h4 : o.after.all (fun e => !Region.binds .any e || listed.getD e.on false) = true := by
    rw [← Array.all_toList]
    refine List.all_eq_true.2 fun e hm => ?_
    cases hb : Region.binds .any e with
    | false => rfl
    | true => simp [he e hm hb]
  simpa using h4

theorem none_ready (hms : masks ops.toList [] = some ms) {listed : Array Bool} (hs : listed.size = ops.size) (h : Region.ready .any ops listed = []) : ∀ i, i < ops.size → listed.getD i false = true := by
  obtain ⟨_, _, h3⟩ := masks_spec _ _ _ hms
  intro i
  induction i using Nat.strongRecOn with
  | _ i ih =>
    intro hi
    have ho : ops[i]? = some ops[i] := Array.getElem?_eq_getElem hi
    cases hb : listed.getD i false with
    | true => rfl
    | false =>
      exfalso
      have hn : listed.getD i true = false := by
        have : i < listed.size := by omega
        simpa [Array.getD, this] using hb
      have hm := ready_of hi ho hn fun e he hbd => by
        have := (h3 i _ ((Array.getElem?_toList ..).trans ho)).1 e he hbd
        simp only [List.length_nil, Nat.zero_add] at this
        exact ih e.on this (by omega)
      rw [h] at hm; simp at hm

theorem all_none {listed : Array Bool} (hs : listed.size = ops.size) (h : ∀ i, i < ops.size → listed.getD i false = true) : Region.ready .any ops listed = [] := by
  cases hr : Region.ready .any ops listed with
  | nil => rfl
  | cons i l =>
    exfalso
    have hm : i ∈ Region.ready .any ops listed := by rw [hr]; simp
    obtain ⟨o, ho, hn, _⟩ := ready_mem hm
    have hi : i < ops.size := by
      rcases Nat.lt_or_ge i ops.size with x | x
      · exact x
      · rw [Array.getElem?_eq_none x] at ho; simp at ho
    have := h i hi
    have hl : i < listed.size := by omega
    simp [Array.getD, hl] at this hn
    rw [this] at hn; simp at hn

theorem any_ok (hN : NoNum P) (hcal : CalOK P call) (kn : Known P call ops ms dsts st dr) {Q : Exit → Act → World → Prop}
    (hQ : ∀ a w σ k Y (L : Nat → Prop), (∀ i, i < ops.size → L i) → Inv ops dsts st dr σ0 w0 L a w σ k Y → Q .normal a w) :
    ∀ (fuel : Nat) (listed : Array Bool) (a : Act) (w : World), listed.size = ops.size → cntU listed ops.size ≤ fuel → (∃ σ k Y, Inv ops dsts st dr σ0 w0 (fun j => listed.getD j false = true) a w σ k Y) → wpAny P .any ops Q fuel listed a w
  | 0, listed, a, w, hs, hc, ⟨σ, k, Y, x⟩ => by
    have hall := cntU_zero (l := listed) (k := ops.size) (by omega)
    exact ⟨all_none hs hall, hQ a w σ k Y _ hall x⟩
  | fuel + 1, listed, a, w, hs, hc, ⟨σ, k, Y, x⟩ => by
    refine ⟨fun hr => hQ a w σ k Y _ (none_ready kn.msk hs hr) x, fun i hi => ?_⟩
    obtain ⟨o, ho, hn, he⟩ := ready_mem hi
    have hlt : i < ops.size := by
      rcases Nat.lt_or_ge i ops.size with z | z
      · exact z
      · rw [Array.getElem?_eq_none z] at ho; simp at ho
    have hl : i < listed.size := by omega
    have hn' : listed.getD i false = false := by simpa [Array.getD, hl] using hn
    refine step_ok hN hcal kn x (by rw [hn']; simp) ho he fun a' w' τ k' Z y => ?_
    refine any_ok hN hcal kn hQ fuel _ a' w' (by simp [hs]) ?_ ⟨τ, k', Z, ?_⟩
    · have := (cntU_set hl hn' ops.size).2 hlt; omega
    · have hL : (fun j => (listed.setIfInBounds i true).getD j false = true) = fun j => listed.getD j false = true ∨ j = i := by
        funext j
        rw [getD_set hl]
        by_cases e : j = i
        · simp [e]
        · simp [e]
      rw [hL]; exact y
end

theorem drawR_ok {P : Program} (hN : NoNum P) (hm : P.follows .mixedOrders = true) {call : Callee} (hcal : CalOK P call) : DrawOK P (drawR P call) := by
  intro ops st st' hd
  unfold drawR at hd
  cases hms : masks ops.toList [] with
  | none => simp [hms] at hd
  | some ms =>
    simp only [hms] at hd
    split at hd
    · simp at hd
    · rename_i dr hrun
      simp only [Bool.cond_eq_ite] at hd
      split at hd
      case isFalse => simp at hd
      rename_i hchk
      simp only [Bool.and_eq_true] at hchk
      split at hd
      case h_2 => simp at hd
      rename_i H T hH hT
      obtain rfl := Option.some.inj hd
      have d0 : DrOK P call ops ms st.tm (writers ops.toList 0) st.h st.nx ⟨[], [st.h], st.nx⟩ :=
        ⟨fun r hr => by simp at hr, by simp, rfl, Nat.le_refl _, fun r hr => by simp at hr, fun r hr => by simp at hr, fun r hr => by simp at hr, fun r hr => by simp at hr, fun k hk => by simp at hk, fun r hr => by simp at hr⟩
      have d1 := runR_ok _ _ _ d0 hrun
      obtain ⟨t1, t2⟩ := putAll_ok hT
      refine ⟨d1.nx, fun id σ a w Q x hf hge hQ => wp_region_any hm ?_⟩
      have kn : Known P call ops ms (writers ops.toList 0) st dr := by
        refine ⟨hms, d1, uniqR_ok hchk.1, fun i hi => ?_, t2, fun r hr d hd => ?_, x.lt, hge⟩
        · have := (List.all_eq_true.1 hchk.2) i (by simpa using hi)
          obtain ⟨r, hr, he⟩ := List.any_eq_true.1 this
          exact ⟨r, hr, Nat.eq_of_beq_eq_true he⟩
        · obtain ⟨o, look, ho, hdd, _⟩ := (d1.recs r hr).is
          rw [hdd] at hd
          simpa using writers_mem (k := 0) (show ops.toList[r.i]? = some o by simpa using ho) hd.symm.symm
      have hno : ∀ j, (Array.replicate ops.size false).getD j false = true → False := fun j h => by
        simp [Array.getD] at h
      refine any_ok (σ0 := σ) (w0 := w.drew) hN hcal kn (fun a' w' τ k Y L hall y => ?_) ops.size _ a _ (by simp) ?_ ⟨σ, 0, st.h.get, ?_⟩
      · have hk : k = dr.Hs.length - 1 := by
          refine Nat.le_antisymm (by have := y.kle; omega) ?_
          rcases Nat.lt_or_ge k (dr.Hs.length - 1) with h | h
          · exfalso
            obtain ⟨q, hq, hqv, hqs⟩ := d1.all k (by omega)
            have hin : q.i < ops.size := by
              obtain ⟨o, look, ho, _⟩ := (d1.recs q hq).is
              rcases Nat.lt_or_ge q.i ops.size with z | z
              · exact z
              · rw [Array.getElem?_eq_none z] at ho; simp at ho
            have := (y.hv q hq hqv).1 (hall _ hin)
            omega
          · exact h
        have hL : ∀ q ∈ dr.recs, L q.i := fun q hq => by
          obtain ⟨o, look, ho, _⟩ := (d1.recs q hq).is
          rcases Nat.lt_or_ge q.i ops.size with z | z
          · exact hall _ z
          · rw [Array.getElem?_eq_none z] at ho; simp at ho
        have hsub : Sub (addAll (dr.Hs.length - 1) dr.recs H).get Y := fun i b hb => by
          rcases addAll_ok hb with hb | ⟨q, hq, h1, h2, rfl⟩
          · exact y.base H (by rw [hk]; exact hH) i b hb
          · exact y.als q hq (hL q hq) (by omega) b h2
        have hst := y.stp.back hsub
        refine hQ τ a' w' ⟨fun t v hv => ?_, fun t v hv => ?_, y.size, y.defers, y.mem.sub hsub, y.glob⟩ ⟨⟨hst.os, hst.tape, hst.output, hst.size, hst.keep, hst.own, hst.lvs⟩, y.ext⟩
        · rcases t1 t v hv with ⟨q, hq, h1, rfl⟩ | ⟨hv, hn⟩
          · exact y.tms q hq (hL q hq) t h1
          · exact y.old t v hv fun q hq _ e => hn q hq e
        · rcases t1 t v hv with ⟨q, hq, h1, _⟩ | ⟨hv, _⟩
          · exact t2 q hq t h1
          · exact x.lt t v hv
      · have : ∀ k, cntU (Array.replicate ops.size false) k ≤ k := fun k => by
          induction k with
          | zero => simp [cntU]
          | succ k ih => simp only [cntU]; split <;> omega
        exact this _
      · refine ⟨fun i o _ hi => (hno i hi).elim, fun r hr hrv => ⟨fun h => (hno _ h).elim, fun h => by omega⟩, fun r hr hrv h => by omega, by have := d1.pos; omega, x.mem.drew.f, fun H' hH' => ?_, fun r hr h => (hno _ h).elim, fun r hr h => (hno _ h).elim, fun t v ht _ => x.tm t v ht, x.size, x.defers, x.glob, Stpf.refl _ _ _, Ext.refl _ _ _, fun i h1 h2 _ => hf i h1 h2⟩
        rw [d1.first] at hH'; obtain rfl := Option.some.inj hH'
        exact fun _ _ h => h

theorem machine_ok {P : Program} (hN : NoNum P) (hm : P.follows .mixedOrders = true) (n : Nat) : CalOK P (aCall P (drawR P) n) := aCall_ok hN (fun _ hcal => drawR_ok hN hm hcal) n
end
end Go.Proofs.YtgihpgdjkanodaaGreatDoor.Ev

namespace Go.Proofs.YtgihpgdjkanodaaGreatDoor.Ev
noncomputable section
open Go Go.RowKit

def tables : List (Nat × List AV) → Hp
  | [] => .leaf
  | (g, cs) :: l => (tables l).set fuelT g (some (.row cs 0 true 2))

theorem tables_ok : ∀ {l : List (Nat × List AV)} {id : Nat} {blk : Blk}, (tables l).get id = some blk → ∃ cs, (id, cs) ∈ l ∧ blk = .row cs 0 true 2
  | [], id, blk, h => by simp [tables, Tr.get_leaf, Tr.get_zero, Tr.get_succ] at h
  | (g, cs) :: l, id, blk, h => by
    simp only [tables] at h
    rcases Tr.get_set _ _ _ _ _ _ h with ⟨rfl, e⟩ | ⟨_, h⟩
    · exact ⟨cs, by simp, (Option.some.inj e).symm⟩
    · obtain ⟨c, h1, h2⟩ := tables_ok h
      exact ⟨c, by simp [h1], h2⟩

theorem toS_V {σ : Sg} {a : AV} {v : Value} (h : toS a = some v) : V σ a v := by
  unfold toS at h
  split at h <;> simp at h <;> subst h <;> simp [V]

/-- The tables hold what is said of them. -/
def Held (w : World) (l : List (Nat × List AV)) : Prop := ∀ g cs, (g, cs) ∈ l → g < 1000 ∧ cs ≠ [] ∧ ∀ j a, cs[j]? = some a → ∃ v, toS a = some v ∧ w.cell? ⟨g, j, none⟩ = some v

def sizeAt (w : World) (b : Nat) : Nat := match w.heap[b]? with
  | some (.cells c _ _) => c.size
  | _ => 0

def σ₀ (w : World) : Sg := fun id => if id < 1000 then some (id, 0, sizeAt w id) else none

theorem held_HR {w : World} {l : List (Nat × List AV)} (h : Held w l) : HR (σ₀ w) (tables l) w := by
  refine ⟨fun id blk hb => ?_, fun i j bi bj p q hi hj hp hq he _ => ?_⟩
  · obtain ⟨cs, hm, rfl⟩ := tables_ok hb
    obtain ⟨h1, h2, h3⟩ := h id cs hm
    have h0 : 0 < cs.length := List.length_pos_iff.2 h2
    obtain ⟨v, _, hv⟩ := h3 0 cs[0] (by simp [h0])
    have hc : ∃ cells tv fz, w.heap[id]? = some (.cells cells tv fz) := by
      unfold World.cell? at hv
      split at hv
      · rename_i c t f hh; exact ⟨c, t, f, hh⟩
      · simp at hv
    obtain ⟨cells, tv, fz, hh⟩ := hc
    have hcell : ∀ j a, cs[j]? = some a → ∃ v, toS a = some v ∧ cells.toList[j]? = some v := fun j a ha => by
      obtain ⟨v, e1, e2⟩ := h3 j a ha
      rw [cell_row hh] at e2
      exact ⟨v, e1, e2⟩
    have hlen : cs.length ≤ cells.toList.length := by
      rcases Nat.lt_or_ge cells.toList.length cs.length with x | x
      · obtain ⟨v, _, e⟩ := hcell cells.toList.length cs[cells.toList.length] (by simp [x])
        simp at e
      · exact x
    refine ⟨id, 0, cells.size, cells, fz, tv, by simp [σ₀, h1, sizeAt, hh], hh, rfl, by simp at hlen; omega, fun e => by simp at e, ?_, fun e => by simp at e, fun e => by simp at e⟩
    refine (VL_iff _ _).2 ⟨by simp; simp at hlen; omega, fun j a v ha hv => ?_⟩
    obtain ⟨u, e1, e2⟩ := hcell j a ha
    rw [List.getElem?_take, List.drop_zero] at hv
    split at hv
    · rw [e2] at hv; obtain rfl := Option.some.inj hv; exact toS_V e1
    · simp at hv
  · unfold σ₀ at hp hq
    split at hp <;> split at hq <;> simp at hp hq
    subst hp; subst hq
    exact he

/-- Did the call return true? -/
def saysTrue : Option (AV × Hp × Nat) → Bool
  | some (.bool true, _, _) => true
  | _ => false

theorem says_ok {P : Program} (hN : NoNum P) (hm : P.follows .mixedOrders = true) {l : List (Nat × List AV)} {n : Nat} {f : FuncId} (h : saysTrue (aCall P (drawR P) n f [] (tables l) 1000) = true) {w : World} (hw : Held w l) :
    Calls P f #[] w fun e w' => e = .returned (.bool true) ∧ Below w.heap.size w w' := by
  unfold saysTrue at h
  split at h
  · rename_i hp nx hc
    obtain ⟨_, hle, hk⟩ := machine_ok hN hm n _ _ _ _ _ _ _ hc
    refine (hk (σ₀ w) w [] (held_HR hw) rfl (fun id h1 _ => by simp [σ₀]; omega) (Nat.le_refl _) (fun g hg => ⟨_, by simp only [σ₀]; rw [if_pos hg]⟩)).mono ?_
    rintro e w' ⟨y, τ, rfl, hy, _, hs, _⟩
    simp only [V] at hy; subst hy
    refine ⟨rfl, hs.os, hs.tape, hs.output, hs.size, fun b hb => hs.keep b hb ?_⟩
    rintro ⟨id, blk, p, hi, hwr, _⟩
    obtain ⟨cs, _, rfl⟩ := tables_ok hi
    simp [wr] at hwr
  · simp at h

def noNumB (P : Program) : Bool := P.funcs.toList.all fun fn => !(fn.name == "runtime.NumGoroutine")
theorem noNum_of {P : Program} (h : noNumB P = true) : NoNum P := fun f fn hf => by
  have := (List.all_eq_true.1 h) fn (List.mem_of_getElem? (show P.funcs.toList[f]? = some fn by simpa using hf))
  simpa using this
end
end Go.Proofs.YtgihpgdjkanodaaGreatDoor.Ev


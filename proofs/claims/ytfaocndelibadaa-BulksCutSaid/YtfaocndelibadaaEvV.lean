/-
  Helper text: strings.Join as a callee that is known by its contract; examples that call it; no statement is proved here.
-/
import Derived.Test.YtfaocndelibadaaEvZ
import Derived.Lib.Join
namespace Go.Proofs.Ytfaocndelibadaa.Ev
noncomputable section
open Go Go.RowKit

/-- A call over nothing that returns true, over any callees. -/
theorem says_okC {P : Program} {call : Callee} (hcal : CalOK P call) {l : List (Nat × List AV)} {f : FuncId} (h : saysTrue (call f [] (tables l) 1000) = true) {w : World} (hw : Held w l) :
    Calls P f #[] w fun e w' => e = .returned (.bool true) ∧ Below w.heap.size w w' := by
  unfold saysTrue at h
  split at h
  · rename_i hp nx hc
    obtain ⟨_, hle, hk⟩ := hcal _ _ _ _ _ _ _ hc
    refine (hk (σ₀ w) w [] (held_HR hw) rfl (fun id h1 _ => by simp [σ₀]; omega) (Nat.le_refl _) (fun g hg => ⟨_, by simp only [σ₀]; rw [if_pos hg]⟩)).mono ?_
    rintro e w' ⟨y, τ, rfl, hy, _, hs, _⟩
    simp only [V] at hy; subst hy
    refine ⟨rfl, hs.os, hs.tape, hs.output, hs.size, fun b hb => hs.keep b hb ?_⟩
    rintro ⟨id, blk, p, hi, hwr, _⟩
    obtain ⟨cs, _, rfl⟩ := tables_ok hi
    simp [wr] at hwr
  · simp at h

/-- Memory that a call has left as it was. -/
theorem HR.below {σ : Sg} {h : Hp} {w w' : World} (x : HR σ h w) (hb : Below w.heap.size w w') : HR σ h w' ∧ Stp σ h w σ h w' :=
  ⟨⟨fun id blk hi => (x.has id blk hi).mono (Le.refl _) fun p hp => by
      obtain ⟨q, hq, hlt⟩ := (x.has id blk hi).lt
      rw [hp] at hq; obtain rfl := Option.some.inj hq
      exact hb.block _ hlt, x.inj⟩, ⟨hb.os, hb.tape, hb.output, hb.size, fun k hk _ => hb.block k hk, fun _ _ z => z, fun _ _ z => z⟩⟩

theorem short_okC {P : Program} {lc : Callee} (hlc : CalOK P lc) {g : FuncId} {l : List (Nat × List AV)} (hs : saysTrue (lc g [] (tables l) 1000) = true) {call : Callee} (hcal : CalOK P call) : CalOK P (short g l call) := by
  intro f args h nx v h' nx' ha
  unfold short at ha
  cases hf : Nat.beq f g with
  | false => simp only [hf, cond_false] at ha; exact hcal _ _ _ _ _ _ _ ha
  | true =>
    simp only [hf, cond_true] at ha
    obtain rfl := Nat.eq_of_beq_eq_true hf
    split at ha
    · cases hall : l.all (hasT h) with
      | false => simp [hall] at ha
      | true =>
        simp only [hall, cond_true] at ha
        simp at ha
        obtain ⟨rfl, rfl, rfl⟩ := ha
        have hex : ∃ fn, P.funcs[f]? = some fn ∧ fn.body.isSome = true := by
          have hs' := hs
          unfold saysTrue at hs'
          split at hs'
          · rename_i hp nx' hc; exact (hlc _ _ _ _ _ _ _ hc).1
          · simp at hs'
        refine ⟨hex, Nat.le_refl _, fun σ w ys x hv hfr hge hg => ?_⟩
        obtain rfl := hv
        refine (says_okC hlc hs (hasT_held x hg hall)).mono ?_
        rintro e w' ⟨rfl, hb⟩
        obtain ⟨k1, k2⟩ := x.below hb
        exact ⟨_, σ, rfl, rfl, k1, k2, Ext.refl _ _ _⟩
    · simp at ha

/-- The strings of cells. -/
def strsA : List AV → Option (List (List UInt8))
  | [] => some []
  | .str s :: l => match strsA l with
    | some r => some (s :: r)
    | none => none
  | _ :: _ => none
theorem strsA_ok : ∀ {l : List AV} {zs : List (List UInt8)}, strsA l = some zs → l = zs.map AV.str
  | [], zs, h => by simp only [strsA, Option.some.injEq] at h; subst h; rfl
  | a :: l, zs, h => by
    unfold strsA at h
    split at h
    · rename_i e; cases e
    · rename_i s l' e
      split at h
      · rename_i r hr
        simp only [Option.some.injEq] at h
        subst h
        injection e with e1 e2
        subst e1; subst e2
        rw [strsA_ok hr]; rfl
      · simp at h
    · simp at h

def JoinOK (P : Program) (g : FuncId) : Prop := (∃ fn, P.funcs[g]? = some fn ∧ fn.body.isSome = true) ∧
  ∀ (w : World) (b o cap : Nat) (xs : List ByteArray) (sep : ByteArray), (∀ (j : Nat) x, xs[j]? = some x → w.cell? ⟨b, o + j, none⟩ = some (.string x)) → b < w.heap.size → xs.length ≤ 1000000 → xs.length ≤ cap → (Lib.join (xs.map (·.data.toList)) sep.data.toList).length ≤ 1000000 →
    Calls P g #[.slice (some ⟨b, o, none⟩) xs.length cap, .string sep] w fun e w' => e = .returned (.string ⟨(Lib.join (xs.map (·.data.toList)) sep.data.toList).toArray⟩) ∧ Below w.heap.size w w'

def capOK (n : Nat) : Cap → Bool
  | .known c => Nat.ble n c
  | .opn _ => true

def joinRes (zs : List (List UInt8)) (sep : List UInt8) (n : Nat) (c : Cap) : Option (List UInt8) :=
  bif Nat.ble 1 n && Nat.ble n 1000 && (capOK n c && Nat.ble (Lib.join zs sep).length 1000000) then some (Lib.join zs sep) else none

def shortJoin (g : FuncId) (call : Callee) : Callee := fun f args h nx =>
  bif Nat.beq f g then (match args with
    | [.sl id off n c, .str sep] => match loadC h id off n with
      | some l => match strsA l with
        | some zs => match joinRes zs sep n c with
          | some s => some (.str s, h, nx)
          | none => none
        | none => none
      | none => none
    | _ => none)
  else call f args h nx

theorem shortJoin_ok {P : Program} {g : FuncId} (hj : JoinOK P g) {call : Callee} (hcal : CalOK P call) : CalOK P (shortJoin g call) := by
  intro f args h nx v h' nx' ha
  unfold shortJoin at ha
  cases hf : Nat.beq f g with
  | false => simp only [hf, cond_false] at ha; exact hcal _ _ _ _ _ _ _ ha
  | true =>
    simp only [hf, cond_true] at ha
    obtain rfl := Nat.eq_of_beq_eq_true hf
    split at ha
    · rename_i id off n c sep
      split at ha
      · rename_i l hl
        split at ha
        · rename_i zs hz
          split at ha
          · rename_i s hs
            simp only [Option.some.injEq, Prod.mk.injEq] at ha
            obtain ⟨rfl, rfl, rfl⟩ := ha
            obtain rfl := strsA_ok hz
            unfold joinRes at hs
            cases hb : (Nat.ble 1 n && Nat.ble n 1000 && (capOK n c && Nat.ble (Lib.join zs sep).length 1000000)) with
            | false => simp [hb] at hs
            | true =>
              simp only [hb, cond_true] at hs
              obtain rfl := Option.some.inj hs
              simp only [Bool.and_eq_true] at hb
              obtain ⟨⟨h1, h2⟩, h3, h4⟩ := hb
              have h1 := Nat.le_of_ble_eq_true h1
              have h2 := Nat.le_of_ble_eq_true h2
              have h4 := Nat.le_of_ble_eq_true h4
              refine ⟨hj.1, Nat.le_refl _, fun σ w ys x hv hfr hge hg => ?_⟩
              obtain ⟨y1, l1, rfl, hy1, y2, l2, rfl, hy2, rfl⟩ := hv
              obtain ⟨b, o, m, g1, k, rfl, hk⟩ := hy1
              obtain rfl := hy2
              have hcap : n ≤ k := by
                cases c with
                | known c => simp only at hk; subst hk; exact Nat.le_of_ble_eq_true h3
                | opn e => exact hk.1
              unfold loadC row? at hl
              split at hl
              · rename_i cs hrow
                split at hrow
                · rename_i cs' ty opn md hget
                  obtain rfl := Option.some.inj hrow
                  cases hbl : Nat.beq ((cs'.drop off).take n).length n with
                  | false => simp only [hbl, cond_false] at hl; simp at hl
                  | true =>
                    simp only [hbl, cond_true] at hl
                    have hl := Option.some.inj hl
                    have hlen := Nat.eq_of_beq_eq_true hbl
                    obtain ⟨b', o', m', cells, fz, tv, q1, q2, q3, q4, q5, q6, _⟩ := x.has _ _ hget
                    rw [g1] at q1; simp at q1; obtain ⟨rfl, rfl, rfl⟩ := q1
                    have hzl : zs.length = n := by rw [hl, List.length_map] at hlen; exact hlen
                    have hcell : ∀ (j : Nat) (z : ByteArray), (zs.map fun z => (⟨⟨z⟩⟩ : ByteArray))[j]? = some z → w.cell? ⟨b, o + off + j, none⟩ = some (.string z) := fun j z hz => by
                      rw [List.getElem?_map, Option.map_eq_some_iff] at hz
                      obtain ⟨s, hs, rfl⟩ := hz
                      have hjn : j < n := by
                        have := (List.getElem?_eq_some_iff.1 hs).1
                        omega
                      have hcs : cs'[off + j]? = some (.str s) := by
                        have : ((cs'.drop off).take n)[j]? = some (.str s) := by rw [hl, List.getElem?_map, hs]; rfl
                        rw [List.getElem?_take, if_pos hjn, List.getElem?_drop] at this
                        exact this
                      obtain ⟨v, hv1, hv2⟩ := VL.get q6 hcs
                      simp only [V] at hv2; subst hv2
                      rw [List.getElem?_take] at hv1
                      split at hv1
                      · rw [List.getElem?_drop] at hv1
                        rw [cell_row q2, Nat.add_assoc]
                        exact hv1
                      · simp at hv1
                    have hmap : (zs.map fun z => (⟨⟨z⟩⟩ : ByteArray)).map (·.data.toList) = zs := by
                      rw [List.map_map]; exact List.map_id' zs
                    have hblt : b < w.heap.size := (Array.getElem?_eq_some_iff.1 q2).1
                    have hc := hj.2 w b (o + off) k (zs.map fun z => (⟨⟨z⟩⟩ : ByteArray)) ⟨⟨sep⟩⟩ hcell hblt (by simp; omega) (by simp; omega) (by rw [hmap]; exact h4)
                    rw [hmap, List.length_map, hzl] at hc
                    refine hc.mono ?_
                    rintro e w' ⟨rfl, hb⟩
                    obtain ⟨k1, k2⟩ := x.below hb
                    exact ⟨_, σ, rfl, rfl, k1, k2, Ext.refl _ _ _⟩
                · simp at hrow
              · simp at hl
          · simp at ha
        · simp at ha
      · simp at ha
    · simp at ha

/-- The callees of a law: what their tests say may be given ahead, for each call by what it is given. -/
def aCallZ (P : Program) (decs : FuncId → List AV → Dec) : Nat → CalleeD
  | 0 => fun _ _ _ _ => none
  | n + 1 => fun f args h nx => aFrameD P (aCallZ P decs n) (decs f args) f args h nx
theorem aCallZ_ok {P : Program} {decs : FuncId → List AV → Dec} : ∀ n, Refines (aCallZ P decs n) (aCall P (drawR P) n)
  | 0 => fun f args h nx v h' nx' ob hs _ => by simp [aCallZ] at hs
  | n + 1 => fun f args h nx v h' nx' ob hs hh => aFrameD_ok (aCallZ_ok n) hs hh
end
end Go.Proofs.Ytfaocndelibadaa.Ev

/-
  Helper text: a call over nothing that returns true in our own machine returns true wherever it is called; no statement is proved here.
-/
import Derived.Test.YtgihpgdjkanodaaGreatDoorEvT
namespace Go.Proofs.YtgihpgdjkanodaaGreatDoor.Ev
noncomputable section
open Go Go.RowKit

def tables : List (Nat × List AV) → Hp
  | [] => .leaf
  | (g, cs) :: l => (tables l).set fuelT g (some (.row cs 0 true 2))

theorem tables_ok : ∀ {l : List (Nat × List AV)} {id : Nat} {blk : Blk}, (tables l).get id = some blk → ∃ cs, (id, cs) ∈ l ∧ blk = .row cs 0 true 2
  | [], id, blk, h => by simp [tables, Tr.get_leaf, Tr.get_zero, Tr.get_succ] at h
  | (g, cs) :: l, id, blk, h => by
    simp only [tables] at h
    rcases Tr.get_set _ _ _ _ _ _ h with ⟨rfl, e⟩ | ⟨_, h⟩
    · exact ⟨cs, by simp, (Option.some.inj e).symm⟩
    · obtain ⟨c, h1, h2⟩ := tables_ok h
      exact ⟨c, by simp [h1], h2⟩

theorem toS_V {σ : Sg} {a : AV} {v : Value} (h : toS a = some v) : V σ a v := by
  unfold toS at h
  split at h <;> simp at h <;> subst h <;> simp [V]

/-- The tables hold what is said of them. -/
def Held (w : World) (l : List (Nat × List AV)) : Prop := ∀ g cs, (g, cs) ∈ l → g < 1000 ∧ cs ≠ [] ∧ ∀ j a, cs[j]? = some a → ∃ v, toS a = some v ∧ w.cell? ⟨g, j, none⟩ = some v

def sizeAt (w : World) (b : Nat) : Nat := match w.heap[b]? with
  | some (.cells c _ _) => c.size
  | _ => 0

def σ₀ (w : World) : Sg := fun id => if id < 1000 then some (id, 0, sizeAt w id) else none

theorem held_HR {w : World} {l : List (Nat × List AV)} (h : Held w l) : HR (σ₀ w) (tables l) w := by
  refine ⟨fun id blk hb => ?_, fun i j bi bj p q hi hj hp hq he _ => ?_⟩
  · obtain ⟨cs, hm, rfl⟩ := tables_ok hb
    obtain ⟨h1, h2, h3⟩ := h id cs hm
    have h0 : 0 < cs.length := List.length_pos_iff.2 h2
    obtain ⟨v, _, hv⟩ := h3 0 cs[0] (by simp [h0])
    have hc : ∃ cells tv fz, w.heap[id]? = some (.cells cells tv fz) := by
      unfold World.cell? at hv
      split at hv
      · rename_i c t f hh; exact ⟨c, t, f, hh⟩
      · simp at hv
    obtain ⟨cells, tv, fz, hh⟩ := hc
    have hcell : ∀ j a, cs[j]? = some a → ∃ v, toS a = some v ∧ cells.toList[j]? = some v := fun j a ha => by
      obtain ⟨v, e1, e2⟩ := h3 j a ha
      rw [cell_row hh] at e2
      exact ⟨v, e1, e2⟩
    have hlen : cs.length ≤ cells.toList.length := by
      rcases Nat.lt_or_ge cells.toList.length cs.length with x | x
      · obtain ⟨v, _, e⟩ := hcell cells.toList.length cs[cells.toList.length] (by simp [x])
        simp at e
      · exact x
    refine ⟨id, 0, cells.size, cells, fz, tv, by simp [σ₀, h1, sizeAt, hh], hh, rfl, by simp at hlen; omega, fun e => by simp at e, ?_, fun e => by simp at e, fun e => by simp at e⟩
    refine (VL_iff _ _).2 ⟨by simp; simp at hlen; omega, fun j a v ha hv => ?_⟩
    obtain ⟨u, e1, e2⟩ := hcell j a ha
    rw [List.getElem?_take, List.drop_zero] at hv
    split at hv
    · rw [e2] at hv; obtain rfl := Option.some.inj hv; exact toS_V e1
    · simp at hv
  · unfold σ₀ at hp hq
    split at hp <;> split at hq <;> simp at hp hq
    subst hp; subst hq
    exact he

/-- Did the call return true? -/
def saysTrue : Option (AV × Hp × Nat) → Bool
  | some (.bool true, _, _) => true
  | _ => false

theorem says_ok {P : Program} (hN : NoNum P) (hm : P.follows .mixedOrders = true) {l : List (Nat × List AV)} {n : Nat} {f : FuncId} (h : saysTrue (aCall P (drawR P) n f [] (tables l) 1000) = true) {w : World} (hw : Held w l) :
    Calls P f #[] w fun e w' => e = .returned (.bool true) ∧ Below w.heap.size w w' := by
  unfold saysTrue at h
  split at h
  · rename_i hp nx hc
    obtain ⟨_, hle, hk⟩ := machine_ok hN hm n _ _ _ _ _ _ _ hc
    refine (hk (σ₀ w) w [] (held_HR hw) rfl (fun id h1 _ => by simp [σ₀]; omega) (Nat.le_refl _) (fun g hg => ⟨_, by simp only [σ₀]; rw [if_pos hg]⟩)).mono ?_
    rintro e w' ⟨y, τ, rfl, hy, _, hs, _⟩
    simp only [V] at hy; subst hy
    refine ⟨rfl, hs.os, hs.tape, hs.output, hs.size, fun b hb => hs.keep b hb ?_⟩
    rintro ⟨id, blk, p, hi, hwr, _⟩
    obtain ⟨cs, _, rfl⟩ := tables_ok hi
    simp [wr] at hwr
  · simp at h

def noNumB (P : Program) : Bool := P.funcs.toList.all fun fn => !(fn.name == "runtime.NumGoroutine")
theorem noNum_of {P : Program} (h : noNumB P = true) : NoNum P := fun f fn hf => by
  have := (List.all_eq_true.1 h) fn (List.mem_of_getElem? (show P.funcs.toList[f]? = some fn by simpa using hf))
  simpa using this
end
end Go.Proofs.YtgihpgdjkanodaaGreatDoor.Ev

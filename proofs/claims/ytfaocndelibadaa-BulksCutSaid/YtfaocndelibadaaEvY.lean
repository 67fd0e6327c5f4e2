/-
  Helper text: memory of ours that holds tables and one slice of bytes that came in; truths of integers that are owed; no statement is proved here.
-/
import Derived.Test.YtfaocndelibadaaEvX
namespace Go.Proofs.Ytfaocndelibadaa.Ev
noncomputable section
open Go Go.RowKit

def cellsOf (xs : List UInt8) : List AV := xs.map fun x => .int .u8 x.toNat
def withBytes (l : List (Nat × List AV)) (xs : List UInt8) : Hp := (tables l).set fuelT 1000 (some (.row (cellsOf xs) 5 true 2))

def σ₁ (w : World) (b off : Nat) : Sg := fun id => if id < 1000 then some (id, 0, sizeAt w id) else if id = 1000 then some (b, off, sizeAt w b) else none

theorem bytes_HR {w : World} {l : List (Nat × List AV)} (h : Held w l) {b off : Nat} {xs : List UInt8} (hx : 0 < xs.length) (hc : ∀ j, j < xs.length → w.cell? ⟨b, off + j, none⟩ = some (.int .u8 ((xs.getD j 0).toNat : Int))) :
    HR (σ₁ w b off) (withBytes l xs) w := by
  have hT := held_HR h
  refine ⟨fun id blk hb => ?_, fun i j bi bj p q hi hj hp hq he hw => ?_⟩
  · unfold withBytes at hb
    rcases Tr.get_set _ _ _ _ _ _ hb with ⟨rfl, e⟩ | ⟨_, hb'⟩
    · obtain rfl := Option.some.inj e
      have hc0 := hc 0 hx
      have hcc : ∃ cells tv fz, w.heap[b]? = some (.cells cells tv fz) := by
        unfold World.cell? at hc0
        split at hc0
        · rename_i c t f hh; exact ⟨c, t, f, hh⟩
        · simp at hc0
      obtain ⟨cells, tv, fz, hh⟩ := hcc
      have hcell : ∀ j, j < xs.length → cells.toList[off + j]? = some (.int .u8 ((xs.getD j 0).toNat : Int)) := fun j hj => by
        have := hc j hj
        rwa [cell_row hh] at this
      have hlen : off + xs.length ≤ cells.toList.length := by
        have := hcell (xs.length - 1) (by omega)
        obtain ⟨h1, _⟩ := List.getElem?_eq_some_iff.1 this
        omega
      refine ⟨b, off, cells.size, cells, fz, tv, by simp [σ₁, sizeAt, hh], hh, rfl, by simp [cellsOf]; simp at hlen; exact hlen, fun e => by simp at e, ?_, fun e => by simp at e, fun e => by simp at e⟩
      refine (VL_iff _ _).2 ⟨by simp [cellsOf]; simp at hlen; omega, fun j a v ha hv => ?_⟩
      have hj : j < xs.length := by
        have := (List.getElem?_eq_some_iff.1 ha).1
        simpa [cellsOf] using this
      rw [List.getElem?_take, List.getElem?_drop] at hv
      rw [if_pos (by simpa [cellsOf] using hj), hcell j hj] at hv
      obtain rfl := Option.some.inj hv
      simp only [cellsOf, List.getElem?_map, List.getElem?_eq_getElem hj, Option.map_some, Option.some.injEq] at ha
      subst ha
      simp [V, List.getD, List.getElem?_eq_getElem hj]
    · obtain ⟨cs, hm, rfl⟩ := tables_ok hb'
      have h1 : id < 1000 := (h id cs hm).1
      obtain ⟨b', o, n, cells, fz, tv, e1, e2, e3, e4, e5, e6, e7, e8⟩ := hT.has id _ hb'
      have e0 : σ₁ w b off id = some (b', o, n) := by
        simp only [σ₀, if_pos h1] at e1
        simp only [σ₁, if_pos h1]
        exact e1
      refine ⟨b', o, n, cells, fz, tv, e0, e2, e3, e4, e5, ?_, e7, e8⟩
      refine VL.mono (σ := σ₀ w) (fun i p hp => ?_) _ _ e6
      unfold σ₀ at hp
      unfold σ₁
      split at hp
      · rename_i hi; rw [if_pos hi]; exact hp
      · simp at hp
  · have ro : ∀ k bk, (withBytes l xs).get k = some bk → wr bk = false := fun k bk hk => by
      unfold withBytes at hk
      rcases Tr.get_set _ _ _ _ _ _ hk with ⟨rfl, e⟩ | ⟨_, hk'⟩
      · obtain rfl := Option.some.inj e; rfl
      · obtain ⟨cs, _, rfl⟩ := tables_ok hk'; rfl
    rw [ro _ _ hi, ro _ _ hj] at hw
    simp at hw

theorem bytes_only {l : List (Nat × List AV)} {xs : List UInt8} : onlyRead (withBytes l xs) := fun k bk hk => by
  unfold withBytes at hk
  rcases Tr.get_set _ _ _ _ _ _ hk with ⟨rfl, e⟩ | ⟨_, hk'⟩
  · obtain rfl := Option.some.inj e; rfl
  · obtain ⟨cs, _, rfl⟩ := tables_ok hk'; rfl
theorem tables_only {l : List (Nat × List AV)} : onlyRead (tables l) := fun k bk hk => by
  obtain ⟨cs, _, rfl⟩ := tables_ok hk; rfl
end
end Go.Proofs.Ytfaocndelibadaa.Ev

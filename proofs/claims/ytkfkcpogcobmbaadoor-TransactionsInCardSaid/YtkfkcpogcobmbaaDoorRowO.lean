/-
  Helper text: an argument that is a list of packets, opened; no statement is proved here.
-/
import Derived.Test.YtkfkcpogcobmbaaDoorRowZ
import Derived.Test.YtkfkcpogcobmbaaDoorTgApi2
namespace Go.Proofs.YtkfkcpogcobmbaaDoor
open Go Go.ChangeShapes Go.WideShapes Go.ChangeAt Go.RowKit Go.Joins Go.Deep

section
variable {H : Type} {enc : TypeId × Value → H} {W : World}
theorem open_rows {v : Value} {fuel : Nat} {y : DataW H × List MemPlace} (h : DataW.trod enc Tryd.prog W 0 (fun _ => true) true fuel 79 [v] = some y) : ∃ (A : Option Addr) (c : Nat) (ps : List (List UInt8)), v = .slice A ps.length c ∧ Tg.Rds W W.heap.size A c ps := by
  rcases open_slice1 Tryd.underlying79 (by kernel_rfl) h with ⟨hcs, _⟩ | ⟨a, len, cap, m, n, V, D, Pl, hcs, _, hl, hm, hmm, _, hx⟩
  · simp at hcs
    exact ⟨none, 0, [], hcs, ⟨Nat.le_refl _, by omega, fun h => absurd h (by simp)⟩⟩
  · simp at hcs hmm
    subst hmm
    have each : ∀ i, i < len → ∃ p : Option Addr × Nat × List UInt8, V i = .slice p.1 p.2.2.length p.2.1 ∧ Rd W W.heap.size p.1 p.2.1 p.2.2 := fun i hi => by
      obtain ⟨A, c, xs, h1, h2⟩ := open_bytes (hx i (by omega)).2
      exact ⟨(A, c, xs), h1, h2⟩
    obtain ⟨p, hp⟩ := choose_lt each
    have hlen : ((List.range len).map fun i => (p i).2.2).length = len := by simp
    refine ⟨some a, _, (List.range len).map fun i => (p i).2.2, by rw [hlen]; exact hcs, by rw [hlen]; exact hl, by simpa [maxLen] using hm, fun hn => ?_⟩
    rw [hlen] at hn
    have hc0 := (hx 0 (by omega)).1
    obtain ⟨b, off, sp⟩ := a
    obtain rfl : sp = none := by simpa [Addr.add] using World.cell?_spot hc0
    refine ⟨b, off, rfl, World.block_lt_of_cell? _ _ hc0, fun j hj => ?_⟩
    rw [hlen] at hj
    obtain ⟨h1, h2⟩ := hp j hj
    have hg : ((List.range len).map fun i => (p i).2.2).getD j [] = (p j).2.2 := by simp [List.getD, hj]
    rw [hg]
    refine ⟨(p j).1, (p j).2.1, ?_, h2⟩
    have := (hx j (by omega)).1
    rw [Go.WideShapes.add_plain, h1] at this
    exact this
end

end Go.Proofs.YtkfkcpogcobmbaaDoor

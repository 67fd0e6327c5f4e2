/-
  Helper text: from the rows' readings to the walks: plans opened; no statement is proved here.
-/
import Derived.Test.YtfaocndelibadaaLawJoin
import Derived.Test.YtfaocndelibadaaChecked
import Derived.Test.YtfaocndelibadaaRows
import Derived.ProofKit
import Derived.LaidMore
import Derived.OpenShut
import Derived.ChangeOld
import Derived.Deep.Slices
import Derived.Lib.SmallJoins
import Derived.Lib.LaidTab
namespace Go.Proofs.Ytfaocndelibadaa
open Go Go.ChangeShapes Go.WideShapes Go.ChangeAt Go.RowKit Go.Joins Go.Deep

theorem own : ownKnob Try.prog.godebug = none := by kernel_rfl
theorem laidOut : laidOutB Try.prog = true := by kernel_rfl
theorem rd_none (W : World) : Rd W W.heap.size none 0 [] := Rd.nil _ _
/-- A slice of bytes that came in reads as bytes. -/
theorem rd_some {W : World} {x : Addr} {len cap : Nat} {zs : List Int} (hl : len ≤ cap) (hm : cap ≤ maxLen) (hz : zs.length = cap)
    (hcell : ∀ i, i < zs.length → W.cell? (x.add i) = some (.int .u8 (zs.getD i 0))) (hwz : ∀ n ∈ zs, (Lit.int .u8 n).wf = true) : ∃ xs : List UInt8, len = xs.length ∧ Rd W W.heap.size (some x) cap xs := by
  have hlen : ((zs.take len).map fun n => UInt8.ofNat n.toNat).length = len := by rw [List.length_map, List.length_take]; omega
  refine ⟨(zs.take len).map fun n => UInt8.ofNat n.toNat, hlen.symm, by rw [hlen]; exact hl, by simpa [maxLen] using hm, fun hn => ?_⟩
  rw [hlen] at hn
  obtain ⟨b, off, rfl, hc⟩ := ints_at hcell (by omega)
  refine ⟨b, off, rfl, World.block_lt_of_cell? _ _ (hc 0 (by omega)), fun j hj => ?_⟩
  rw [hlen] at hj
  rw [hc j (by omega)]
  have hj2 : j < zs.length := by omega
  have hb := bounds_u8 (hwz zs[j] (List.getElem_mem hj2))
  have e : ((zs.take len).map fun n => UInt8.ofNat n.toNat).getD j 0 = UInt8.ofNat zs[j].toNat := by simp [List.getD, hj, List.getElem?_eq_getElem hj2]
  rw [e]
  have e2 : ((UInt8.ofNat zs[j].toNat).toNat : Int) = zs[j] := by
    rw [UInt8.toNat_ofNat']
    omega
  rw [show zs.getD j 0 = zs[j] by simp [List.getD, List.getElem?_eq_getElem hj2]]
  show _ = some (Value.int .u8 _)
  rw [e2]
section
variable {H : Type} {enc : TypeId × Value → H} {W : World}
theorem open_bytes {v : Value} {fuel : Nat} {y : DataW H × List MemPlace} (h : DataW.trod enc Try.prog W 0 (fun _ => true) true fuel 22 [v] = some y) : ∃ (A : Option Addr) (c : Nat) (xs : List UInt8), v = .slice A xs.length c ∧ Rd W W.heap.size A c xs := by
  rcases open_ints Try.underlying22 Try.underlying5 (by kernel_rfl) h with ⟨hcs, _⟩ | ⟨x, l, c, zs, hcs, _, hl, hm, hz, _, hcell, hwz⟩
  · simp at hcs
    exact ⟨none, 0, [], hcs, Rd.nil _ _⟩
  · simp at hcs
    obtain ⟨xs, e, hr⟩ := rd_some hl hm (by simpa using hz) hcell hwz
    subst e
    exact ⟨_, _, xs, hcs, hr⟩
theorem open_rows {v : Value} {fuel : Nat} {y : DataW H × List MemPlace} (h : DataW.trod enc Try.prog W 0 (fun _ => true) true fuel 23 [v] = some y) : ∃ (A : Option Addr) (c : Nat) (ps : List (List UInt8)), v = .slice A ps.length c ∧ Rds W W.heap.size A c ps := by
  rcases open_slice1 Try.underlying23 (by kernel_rfl) h with ⟨hcs, _⟩ | ⟨a, len, cap, m, n, V, D, Pl, hcs, _, hl, hm, hmm, _, hx⟩
  · simp at hcs
    exact ⟨none, 0, [], hcs, ⟨Nat.le_refl _, by omega, fun h => absurd h (by simp)⟩⟩
  · simp at hcs hmm
    subst hmm
    have each : ∀ i, i < len → ∃ p : Option Addr × Nat × List UInt8, V i = .slice p.1 p.2.2.length p.2.1 ∧ Rd W W.heap.size p.1 p.2.1 p.2.2 := fun i hi => by
      obtain ⟨A, c, xs, h1, h2⟩ := open_bytes (hx i (by omega)).2
      exact ⟨(A, c, xs), h1, h2⟩
    obtain ⟨p, hp⟩ := choose_lt each
    have hlen : ((List.range len).map fun i => (p i).2.2).length = len := by simp
    refine ⟨some a, _, (List.range len).map fun i => (p i).2.2, by rw [hlen]; exact hcs, by rw [hlen]; exact hl, by simpa [maxLen] using hm, fun hn => ?_⟩
    rw [hlen] at hn
    have hc0 := (hx 0 (by omega)).1
    obtain ⟨b, off, sp⟩ := a
    obtain rfl : sp = none := by simpa [Addr.add] using World.cell?_spot hc0
    refine ⟨b, off, rfl, World.block_lt_of_cell? _ _ hc0, fun j hj => ?_⟩
    rw [hlen] at hj
    obtain ⟨h1, h2⟩ := hp j hj
    have hg : ((List.range len).map fun i => (p i).2.2).getD j [] = (p j).2.2 := by simp [List.getD, hj]
    rw [hg]
    refine ⟨(p j).1, (p j).2.1, ?_, h2⟩
    have := (hx j (by omega)).1
    rw [Go.WideShapes.add_plain, h1] at this
    exact this
end
end Go.Proofs.Ytfaocndelibadaa

/-
  Helper text: from the rows' readings to the walks: arguments opened; no statement is proved here.
-/
import Derived.Test.YtjilbgdenolllaaPk
import Derived.Test.YtjilbgdenolllaaRows
import Derived.ProofKit
import Derived.LaidMore
import Derived.OpenShut
import Derived.ShutString
import Derived.ChangeOld
import Derived.Lib.LaidTab
import Derived.Deep.Slices
import Derived.Lib.SmallJoins
namespace Go.Proofs.Ytjilbgdenolllaa
open Go Go.ChangeShapes Go.WideShapes Go.ChangeAt Go.RowKit Go.Joins Go.Deep

theorem own : ownKnob Try.prog.godebug = none := by kernel_rfl
theorem laidOut : laidOutB Try.prog = true := by kernel_rfl
theorem arr2 {cs : Array Value} (h : cs.size = 2) : ∃ c0 c1, cs = #[c0, c1] := by
  obtain ⟨l⟩ := cs
  match l, h with
  | [a, b], _ => exact ⟨a, b, rfl⟩
/-- A slice of bytes that came in reads as bytes. -/
theorem rd_some {W : World} {x : Addr} {len cap : Nat} {zs : List Int} (hl : len ≤ cap) (hm : cap ≤ maxLen) (hz : zs.length = cap)
    (hcell : ∀ i, i < zs.length → W.cell? (x.add i) = some (.int .u8 (zs.getD i 0))) (hwz : ∀ n ∈ zs, (Lit.int .u8 n).wf = true) : ∃ xs : List UInt8, len = xs.length ∧ Rd W W.heap.size (some x) cap xs := by
  have hlen : ((zs.take len).map fun n => UInt8.ofNat n.toNat).length = len := by rw [List.length_map, List.length_take]; omega
  refine ⟨(zs.take len).map fun n => UInt8.ofNat n.toNat, hlen.symm, by rw [hlen]; exact hl, by simpa [maxLen] using hm, fun hn => ?_⟩
  rw [hlen] at hn
  obtain ⟨b, off, rfl, hc⟩ := ints_at hcell (by omega)
  refine ⟨b, off, rfl, World.block_lt_of_cell? _ _ (hc 0 (by omega)), fun j hj => ?_⟩
  rw [hlen] at hj
  rw [hc j (by omega)]
  have hj2 : j < zs.length := by omega
  have hb := bounds_u8 (hwz zs[j] (List.getElem_mem hj2))
  have e : ((zs.take len).map fun n => UInt8.ofNat n.toNat).getD j 0 = UInt8.ofNat zs[j].toNat := by simp [List.getD, hj, List.getElem?_eq_getElem hj2]
  rw [e]
  have e2 : ((UInt8.ofNat zs[j].toNat).toNat : Int) = zs[j] := by
    rw [UInt8.toNat_ofNat']
    omega
  rw [show zs.getD j 0 = zs[j] by simp [List.getD, List.getElem?_eq_getElem hj2]]
  show _ = some (Value.int .u8 _)
  rw [e2]
theorem rd_none (W : World) : Rd W W.heap.size none 0 [] := Rd.nil _ _

section
variable {H : Type} {enc : TypeId × Value → H} {W : World}
theorem open_bytes {v : Value} {fuel : Nat} {y : DataW H × List MemPlace} (h : DataW.trod enc Try.prog W 0 (fun _ => true) true fuel 26 [v] = some y) : ∃ (A : Option Addr) (c : Nat) (xs : List UInt8), v = .slice A xs.length c ∧ Rd W W.heap.size A c xs := by
  rcases open_ints Try.underlying26 Try.underlying5 (by kernel_rfl) h with ⟨hcs, _⟩ | ⟨x, l, c, zs, hcs, _, hl, hm, hz, _, hcell, hwz⟩
  · simp at hcs
    exact ⟨none, 0, [], hcs, rd_none W⟩
  · simp at hcs
    obtain ⟨xs, e, hr⟩ := rd_some hl hm (by simpa using hz) hcell hwz
    subst e
    exact ⟨_, _, xs, hcs, hr⟩
theorem open_rows {v : Value} {fuel : Nat} {y : DataW H × List MemPlace} (h : DataW.trod enc Try.prog W 0 (fun _ => true) true fuel 22 [v] = some y) : ∃ (A : Option Addr) (c : Nat) (ps : List (List UInt8)), v = .slice A ps.length c ∧ Rds W W.heap.size A c ps := by
  rcases open_slice1 Try.underlying22 (by kernel_rfl) h with ⟨hcs, _⟩ | ⟨a, len, cap, m, n, V, D, Pl, hcs, _, hl, hm, hmm, _, hx⟩
  · simp at hcs
    exact ⟨none, 0, [], hcs, ⟨Nat.le_refl _, by omega, fun h => absurd h (by simp)⟩⟩
  · simp at hcs hmm
    subst hmm
    have each : ∀ i, i < len → ∃ p : Option Addr × Nat × List UInt8, V i = .slice p.1 p.2.2.length p.2.1 ∧ Rd W W.heap.size p.1 p.2.1 p.2.2 := fun i hi => by
      obtain ⟨A, c, xs, h1, h2⟩ := open_bytes (hx i (by omega)).2
      exact ⟨(A, c, xs), h1, h2⟩
    obtain ⟨p, hp⟩ := choose_lt each
    have hlen : ((List.range len).map fun i => (p i).2.2).length = len := by simp
    refine ⟨some a, _, (List.range len).map fun i => (p i).2.2, by rw [hlen]; exact hcs, by rw [hlen]; exact hl, by simpa [maxLen] using hm, fun hn => ?_⟩
    rw [hlen] at hn
    have hc0 := (hx 0 (by omega)).1
    obtain ⟨b, off, sp⟩ := a
    obtain rfl : sp = none := by simpa [Addr.add] using World.cell?_spot hc0
    refine ⟨b, off, rfl, World.block_lt_of_cell? _ _ hc0, fun j hj => ?_⟩
    rw [hlen] at hj
    obtain ⟨h1, h2⟩ := hp j hj
    have hg : ((List.range len).map fun i => (p i).2.2).getD j [] = (p j).2.2 := by simp [List.getD, hj]
    rw [hg]
    refine ⟨(p j).1, (p j).2.1, ?_, h2⟩
    have := (hx j (by omega)).1
    rw [Go.WideShapes.add_plain, h1] at this
    exact this
theorem open_snd {base : Nat} {v : Value} {d : DataW H} {p : List MemPlace} (hv : Value.okWide Try.prog W .any base 28 v) (h : DataW.Trod enc Try.prog W 0 (fun _ => true) true 28 v d p) :
    ∃ (t : Bool) (A : Option Addr) (c : Nat) (ps : List (List UInt8)), v = .agg #[.bool t, .slice A ps.length c] ∧ Rds W W.heap.size A c ps := by
  obtain ⟨cs, rfl, hsz⟩ := okWide_struct Try.underlying28 hv
  obtain ⟨c0, c1, rfl⟩ := arr2 (hsz.trans (by kernel_rfl))
  obtain ⟨fuel, hf⟩ := h
  obtain ⟨xs, k, _, _, _, hlen, hx⟩ := DataW.trod_struct Try.underlying28 hf
  have hlen : xs.length = 2 := hlen
  have e0 := hx 0 _ rfl
  have e1 := hx 1 _ rfl
  rw [List.getElem?_eq_getElem (by omega)] at e0 e1
  have g0 : DataW.trod enc Try.prog W 0 (fun _ => true) true k 4 [c0] = some _ := e0
  have g1 : DataW.trod enc Try.prog W 0 (fun _ => true) true k 22 [c1] = some _ := e1
  obtain ⟨t, ht, _⟩ := DataW.trod_bool Try.underlying4 g0
  obtain rfl : c0 = _ := by simpa using ht
  obtain ⟨A, c, ps, rfl, hP⟩ := open_rows g1
  exact ⟨t, A, c, ps, rfl, hP⟩
theorem open_rcv {base : Nat} {v : Value} {d : DataW H} {p : List MemPlace} (hv : Value.okWide Try.prog W .any base 39 v) (h : DataW.Trod enc Try.prog W 0 (fun _ => true) true 39 v d p) :
    ∃ (t : Bool) (A : Option Addr) (c : Nat) (ps : List (List UInt8)), v = .agg #[.bool t, .slice A ps.length c] ∧ Rds W W.heap.size A c ps := by
  obtain ⟨cs, rfl, hsz⟩ := okWide_struct Try.underlying39 hv
  obtain ⟨c0, c1, rfl⟩ := arr2 (hsz.trans (by kernel_rfl))
  obtain ⟨fuel, hf⟩ := h
  obtain ⟨xs, k, _, _, _, hlen, hx⟩ := DataW.trod_struct Try.underlying39 hf
  have hlen : xs.length = 2 := hlen
  have e0 := hx 0 _ rfl
  have e1 := hx 1 _ rfl
  rw [List.getElem?_eq_getElem (by omega)] at e0 e1
  have g0 : DataW.trod enc Try.prog W 0 (fun _ => true) true k 4 [c0] = some _ := e0
  have g1 : DataW.trod enc Try.prog W 0 (fun _ => true) true k 22 [c1] = some _ := e1
  obtain ⟨t, ht, _⟩ := DataW.trod_bool Try.underlying4 g0
  obtain rfl : c0 = _ := by simpa using ht
  obtain ⟨A, c, ps, rfl, hP⟩ := open_rows g1
  exact ⟨t, A, c, ps, rfl, hP⟩
end

end Go.Proofs.Ytjilbgdenolllaa

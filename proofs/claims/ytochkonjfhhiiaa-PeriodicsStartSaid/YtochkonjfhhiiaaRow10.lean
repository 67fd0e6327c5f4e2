/-
  Helper text: from the rows' readings to the walks: plans opened; no statement is proved here.
-/
import Derived.Test.YtochkonjfhhiiaaLawSt10
import Derived.Test.YtochkonjfhhiiaaChecked
import Derived.Test.YtochkonjfhhiiaaRows
import Derived.ProofKit
import Derived.LaidMore
import Derived.OpenShut
import Derived.ChangeOld
import Derived.Deep.Slices
import Derived.Lib.SmallJoins
import Derived.Lib.LaidTab
namespace Go.Proofs.Ytochkonjfhhiiaa
open Go Go.ChangeShapes Go.WideShapes Go.ChangeAt Go.RowKit Go.Joins Go.Deep

theorem own : ownKnob Try.prog.godebug = none := by kernel_rfl
theorem laidOut : laidOutB Try.prog = true := by kernel_rfl
theorem rd_none (W : World) : Rd W W.heap.size none 0 [] := Rd.nil _ _
/-- A slice of bytes that came in reads as bytes. -/
theorem rd_some {W : World} {x : Addr} {len cap : Nat} {zs : List Int} (hl : len ≤ cap) (hm : cap ≤ maxLen) (hz : zs.length = cap)
    (hcell : ∀ i, i < zs.length → W.cell? (x.add i) = some (.int .u8 (zs.getD i 0))) (hwz : ∀ n ∈ zs, (Lit.int .u8 n).wf = true) : ∃ xs : List UInt8, len = xs.length ∧ Rd W W.heap.size (some x) cap xs := by
  have hlen : ((zs.take len).map fun n => UInt8.ofNat n.toNat).length = len := by rw [List.length_map, List.length_take]; omega
  refine ⟨(zs.take len).map fun n => UInt8.ofNat n.toNat, hlen.symm, by rw [hlen]; exact hl, by simpa [maxLen] using hm, fun hn => ?_⟩
  rw [hlen] at hn
  obtain ⟨b, off, rfl, hc⟩ := ints_at hcell (by omega)
  refine ⟨b, off, rfl, World.block_lt_of_cell? _ _ (hc 0 (by omega)), fun j hj => ?_⟩
  rw [hlen] at hj
  rw [hc j (by omega)]
  have hj2 : j < zs.length := by omega
  have hb := bounds_u8 (hwz zs[j] (List.getElem_mem hj2))
  have e : ((zs.take len).map fun n => UInt8.ofNat n.toNat).getD j 0 = UInt8.ofNat zs[j].toNat := by simp [List.getD, hj, List.getElem?_eq_getElem hj2]
  rw [e]
  have e2 : ((UInt8.ofNat zs[j].toNat).toNat : Int) = zs[j] := by
    rw [UInt8.toNat_ofNat']
    omega
  rw [show zs.getD j 0 = zs[j] by simp [List.getD, List.getElem?_eq_getElem hj2]]
  show _ = some (Value.int .u8 _)
  rw [e2]
section
variable {H : Type} {enc : TypeId × Value → H} {W : World}
theorem open_bytes {v : Value} {fuel : Nat} {y : DataW H × List MemPlace} (h : DataW.trod enc Try.prog W 0 (fun _ => true) true fuel 45 [v] = some y) : ∃ (A : Option Addr) (c : Nat) (xs : List UInt8), v = .slice A xs.length c ∧ Rd W W.heap.size A c xs := by
  rcases open_ints Try.underlying45 Try.underlying5 (by kernel_rfl) h with ⟨hcs, _⟩ | ⟨x, l, c, zs, hcs, _, hl, hm, hz, _, hcell, hwz⟩
  · simp at hcs
    exact ⟨none, 0, [], hcs, Rd.nil _ _⟩
  · simp at hcs
    obtain ⟨xs, e, hr⟩ := rd_some hl hm (by simpa using hz) hcell hwz
    subst e
    exact ⟨_, _, xs, hcs, hr⟩
theorem open_u8 {t : TypeId} (hu : Try.prog.underlying t = some (.int .u8)) {v : Value} {fuel : Nat} {y : DataW H × List MemPlace} (h : DataW.trod enc Try.prog W 0 (fun _ => true) true fuel t [v] = some y) : ∃ m : Nat, v = .int .u8 (m : Int) ∧ m < 256 := by
  obtain ⟨z, ht, _, wt⟩ := DataW.trod_int hu h
  obtain rfl : v = _ := by simpa using ht
  have b := bounds_u8 wt
  obtain ⟨z, rfl⟩ := Int.eq_ofNat_of_zero_le b.1
  exact ⟨z, rfl, by omega⟩
theorem open_i64 {v : Value} {fuel : Nat} {y : DataW H × List MemPlace} (h : DataW.trod enc Try.prog W 0 (fun _ => true) true fuel 3 [v] = some y) : ∃ z : Int, v = .int .i64 z ∧ -9223372036854775808 ≤ z ∧ z ≤ 9223372036854775807 := by
  obtain ⟨z, ht, _, wt⟩ := DataW.trod_int Try.underlying3 h
  obtain rfl : v = _ := by simpa using ht
  have b := bounds_i64 wt
  exact ⟨z, rfl, by omega, by omega⟩
theorem open_bool1 {v : Value} {fuel : Nat} {y : DataW H × List MemPlace} (h : DataW.trod enc Try.prog W 0 (fun _ => true) true fuel 4 [v] = some y) : ∃ b : Bool, v = .bool b := by
  obtain ⟨b, hb, _⟩ := DataW.trod_bool Try.underlying4 h
  exact ⟨b, by simpa using hb⟩
theorem open_rows {v : Value} {fuel : Nat} {y : DataW H × List MemPlace} (h : DataW.trod enc Try.prog W 0 (fun _ => true) true fuel 40 [v] = some y) : ∃ (A : Option Addr) (c : Nat) (ps : List (List UInt8)), v = .slice A ps.length c ∧ Rds W W.heap.size A c ps := by
  rcases open_slice1 Try.underlying40 (by kernel_rfl) h with ⟨hcs, _⟩ | ⟨a, len, cap, m, n, V, D, Pl, hcs, _, hl, hm, hmm, _, hx⟩
  · simp at hcs
    exact ⟨none, 0, [], hcs, ⟨Nat.le_refl _, by omega, fun h => absurd h (by simp)⟩⟩
  · simp at hcs hmm
    subst hmm
    have each : ∀ i, i < len → ∃ p : Option Addr × Nat × List UInt8, V i = .slice p.1 p.2.2.length p.2.1 ∧ Rd W W.heap.size p.1 p.2.1 p.2.2 := fun i hi => by
      obtain ⟨A, c, xs, h1, h2⟩ := open_bytes (hx i (by omega)).2
      exact ⟨(A, c, xs), h1, h2⟩
    obtain ⟨p, hp⟩ := choose_lt each
    have hlen : ((List.range len).map fun i => (p i).2.2).length = len := by simp
    refine ⟨some a, _, (List.range len).map fun i => (p i).2.2, by rw [hlen]; exact hcs, by rw [hlen]; exact hl, by simpa [maxLen] using hm, fun hn => ?_⟩
    rw [hlen] at hn
    have hc0 := (hx 0 (by omega)).1
    obtain ⟨b, off, sp⟩ := a
    obtain rfl : sp = none := by simpa [Addr.add] using World.cell?_spot hc0
    refine ⟨b, off, rfl, World.block_lt_of_cell? _ _ hc0, fun j hj => ?_⟩
    rw [hlen] at hj
    obtain ⟨h1, h2⟩ := hp j hj
    have hg : ((List.range len).map fun i => (p i).2.2).getD j [] = (p j).2.2 := by simp [List.getD, hj]
    rw [hg]
    refine ⟨(p j).1, (p j).2.1, ?_, h2⟩
    have := (hx j (by omega)).1
    rw [Go.WideShapes.add_plain, h1] at this
    exact this
theorem array5 {cs : Array Value} (h : cs.size = 5) : ∃ a b c d e, cs = #[a, b, c, d, e] := by
  rcases cs with ⟨l⟩
  simp at h
  match l, h with
  | [a, b, c, d, e], _ => exact ⟨a, b, c, d, e, rfl⟩
set_option maxRecDepth 100000 in
theorem open_Per {base : Nat} {v : Value} {d : DataW H} {p : List MemPlace} (hv : Value.okWide Try.prog W .any base 42 v) (h : DataW.Trod enc Try.prog W 0 (fun _ => true) true 42 v d p) :
    ∃ (inn : Bool) (endp : Nat) (max : Int) (A : Option Addr) (c : Nat) (ps : List (List UInt8)) (many : Int), v = planP inn endp max A ps.length c many ∧ Rds W W.heap.size A c ps := by
  obtain ⟨cs, rfl, hsz⟩ := okWide_struct Try.underlying42 hv
  obtain ⟨c0, c1, c2, c3, c4, rfl⟩ := array5 (hsz.trans (by kernel_rfl))
  obtain ⟨fuel, hf⟩ := h
  obtain ⟨xs, k, _, _, _, hlen, hx⟩ := DataW.trod_struct Try.underlying42 hf
  have hlen : xs.length = 5 := hlen
  have e0 := hx 0 _ rfl
  have e1 := hx 1 _ rfl
  have e2 := hx 2 _ rfl
  have e3 := hx 3 _ rfl
  have e4 := hx 4 _ rfl
  rw [List.getElem?_eq_getElem (by omega)] at e0 e1 e2 e3 e4
  have g0 : DataW.trod enc Try.prog W 0 (fun _ => true) true k 4 [c0] = some _ := e0
  have g1 : DataW.trod enc Try.prog W 0 (fun _ => true) true k 5 [c1] = some _ := e1
  have g2 : DataW.trod enc Try.prog W 0 (fun _ => true) true k 3 [c2] = some _ := e2
  have g3 : DataW.trod enc Try.prog W 0 (fun _ => true) true k 40 [c3] = some _ := e3
  have g4 : DataW.trod enc Try.prog W 0 (fun _ => true) true k 3 [c4] = some _ := e4
  obtain ⟨b0, rfl⟩ := open_bool1 g0
  obtain ⟨m1, rfl, _⟩ := open_u8 Try.underlying5 g1
  obtain ⟨z2, rfl, _, _⟩ := open_i64 g2
  obtain ⟨A, c, ps, rfl, hr⟩ := open_rows g3
  obtain ⟨z4, rfl, _, _⟩ := open_i64 g4
  exact ⟨b0, m1, z2, A, c, ps, z4, rfl, hr⟩
end
end Go.Proofs.Ytochkonjfhhiiaa

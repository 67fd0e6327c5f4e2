/-
  Helper text: from the rows' readings to the walks: plans opened; no statement is proved here.
-/
import Derived.Test.YtfaocndelibadaaLawSt
import Derived.Test.YtfaocndelibadaaChecked
import Derived.Test.YtfaocndelibadaaRows
import Derived.ProofKit
import Derived.LaidMore
import Derived.OpenShut
import Derived.ChangeOld
import Derived.Deep.Slices
import Derived.Lib.SmallJoins
namespace Go.Proofs.Ytfaocndelibadaa
open Go Go.ChangeShapes Go.WideShapes Go.ChangeAt Go.RowKit Go.Joins Go.Deep

theorem own : ownKnob Try.prog.godebug = none := by kernel_rfl
theorem laidOut : laidOutB Try.prog = true := by kernel_rfl
theorem rd_none (W : World) : Rd W W.heap.size none 0 [] := Rd.nil _ _
/-- A slice of bytes that came in reads as bytes. -/
theorem rd_some {W : World} {x : Addr} {len cap : Nat} {zs : List Int} (hl : len ≤ cap) (hm : cap ≤ maxLen) (hz : zs.length = cap)
    (hcell : ∀ i, i < zs.length → W.cell? (x.add i) = some (.int .u8 (zs.getD i 0))) (hwz : ∀ n ∈ zs, (Lit.int .u8 n).wf = true) : ∃ xs : List UInt8, len = xs.length ∧ Rd W W.heap.size (some x) cap xs := by
  have hlen : ((zs.take len).map fun n => UInt8.ofNat n.toNat).length = len := by rw [List.length_map, List.length_take]; omega
  refine ⟨(zs.take len).map fun n => UInt8.ofNat n.toNat, hlen.symm, by rw [hlen]; exact hl, by simpa [maxLen] using hm, fun hn => ?_⟩
  rw [hlen] at hn
  obtain ⟨b, off, rfl, hc⟩ := ints_at hcell (by omega)
  refine ⟨b, off, rfl, World.block_lt_of_cell? _ _ (hc 0 (by omega)), fun j hj => ?_⟩
  rw [hlen] at hj
  rw [hc j (by omega)]
  have hj2 : j < zs.length := by omega
  have hb := bounds_u8 (hwz zs[j] (List.getElem_mem hj2))
  have e : ((zs.take len).map fun n => UInt8.ofNat n.toNat).getD j 0 = UInt8.ofNat zs[j].toNat := by simp [List.getD, List.getElem?_take, hj, List.getElem?_eq_getElem hj2]
  rw [e]
  have e2 : ((UInt8.ofNat zs[j].toNat).toNat : Int) = zs[j] := by
    rw [UInt8.toNat_ofNat']
    omega
  rw [show zs.getD j 0 = zs[j] by simp [List.getD, List.getElem?_eq_getElem hj2]]
  show _ = some (Value.int .u8 _)
  rw [e2]
section
variable {H : Type} {enc : TypeId × Value → H} {W : World}
theorem open_bytes {v : Value} {fuel : Nat} {y : DataW H × List MemPlace} (h : DataW.trod enc Try.prog W 0 (fun _ => true) true fuel 22 [v] = some y) : ∃ (A : Option Addr) (c : Nat) (xs : List UInt8), v = .slice A xs.length c ∧ Rd W W.heap.size A c xs := by
  rcases open_ints Try.underlying22 Try.underlying5 (by kernel_rfl) h with ⟨hcs, _⟩ | ⟨x, l, c, zs, hcs, _, hl, hm, hz, _, hcell, hwz⟩
  · simp at hcs
    exact ⟨none, 0, [], hcs, Rd.nil _ _⟩
  · simp at hcs
    obtain ⟨xs, e, hr⟩ := rd_some hl hm (by simpa using hz) hcell hwz
    subst e
    exact ⟨_, _, xs, hcs, hr⟩
theorem open_u8 {t : TypeId} (hu : Try.prog.underlying t = some (.int .u8)) {v : Value} {fuel : Nat} {y : DataW H × List MemPlace} (h : DataW.trod enc Try.prog W 0 (fun _ => true) true fuel t [v] = some y) : ∃ m : Nat, v = .int .u8 (m : Int) ∧ m < 256 := by
  obtain ⟨z, ht, _, wt⟩ := DataW.trod_int hu h
  obtain rfl : v = _ := by simpa using ht
  have b := bounds_u8 wt
  obtain ⟨z, rfl⟩ := Int.eq_ofNat_of_zero_le b.1
  exact ⟨z, rfl, by omega⟩
theorem open_i64 {v : Value} {fuel : Nat} {y : DataW H × List MemPlace} (h : DataW.trod enc Try.prog W 0 (fun _ => true) true fuel 3 [v] = some y) : ∃ z : Int, v = .int .i64 z ∧ -9223372036854775808 ≤ z ∧ z ≤ 9223372036854775807 := by
  obtain ⟨z, ht, _, wt⟩ := DataW.trod_int Try.underlying3 h
  obtain rfl : v = _ := by simpa using ht
  have b := bounds_i64 wt
  exact ⟨z, rfl, by omega, by omega⟩
theorem open_bool1 {v : Value} {fuel : Nat} {y : DataW H × List MemPlace} (h : DataW.trod enc Try.prog W 0 (fun _ => true) true fuel 4 [v] = some y) : ∃ b : Bool, v = .bool b := by
  obtain ⟨b, hb, _⟩ := DataW.trod_bool Try.underlying4 h
  exact ⟨b, by simpa using hb⟩
theorem array7 {cs : Array Value} (h : cs.size = 7) : ∃ a b c d e f g, cs = #[a, b, c, d, e, f, g] := by
  rcases cs with ⟨l⟩
  simp at h
  match l, h with
  | [a, b, c, d, e, f, g], _ => exact ⟨a, b, c, d, e, f, g, rfl⟩
set_option maxRecDepth 100000 in
theorem open_Plan {base : Nat} {v : Value} {d : DataW H} {p : List MemPlace} (hv : Value.okWide Try.prog W .any base 37 v) (h : DataW.Trod enc Try.prog W 0 (fun _ => true) true 37 v d p) :
    ∃ (inn : Bool) (endp : Nat) (max : Int) (tog : Bool) (A : Option Addr) (c : Nat) (xs : List UInt8) (zero : Bool) (len : Int), v = planV inn endp max tog A xs.length c zero len ∧ Rd W W.heap.size A c xs := by
  obtain ⟨cs, rfl, hsz⟩ := okWide_struct Try.underlying37 hv
  obtain ⟨c0, c1, c2, c3, c4, c5, c6, rfl⟩ := array7 (hsz.trans (by kernel_rfl))
  obtain ⟨fuel, hf⟩ := h
  obtain ⟨xs, k, _, _, _, hlen, hx⟩ := DataW.trod_struct Try.underlying37 hf
  have hlen : xs.length = 7 := hlen
  have e0 := hx 0 _ rfl
  have e1 := hx 1 _ rfl
  have e2 := hx 2 _ rfl
  have e3 := hx 3 _ rfl
  have e4 := hx 4 _ rfl
  have e5 := hx 5 _ rfl
  have e6 := hx 6 _ rfl
  rw [List.getElem?_eq_getElem (by omega)] at e0 e1 e2 e3 e4 e5 e6
  have g0 : DataW.trod enc Try.prog W 0 (fun _ => true) true k 4 [c0] = some _ := e0
  have g1 : DataW.trod enc Try.prog W 0 (fun _ => true) true k 5 [c1] = some _ := e1
  have g2 : DataW.trod enc Try.prog W 0 (fun _ => true) true k 3 [c2] = some _ := e2
  have g3 : DataW.trod enc Try.prog W 0 (fun _ => true) true k 4 [c3] = some _ := e3
  have g4 : DataW.trod enc Try.prog W 0 (fun _ => true) true k 22 [c4] = some _ := e4
  have g5 : DataW.trod enc Try.prog W 0 (fun _ => true) true k 4 [c5] = some _ := e5
  have g6 : DataW.trod enc Try.prog W 0 (fun _ => true) true k 3 [c6] = some _ := e6
  obtain ⟨b0, rfl⟩ := open_bool1 g0
  obtain ⟨m1, rfl, _⟩ := open_u8 Try.underlying5 g1
  obtain ⟨z2, rfl, _, _⟩ := open_i64 g2
  obtain ⟨b3, rfl⟩ := open_bool1 g3
  obtain ⟨A, c, bs, rfl, hr⟩ := open_bytes g4
  obtain ⟨b5, rfl⟩ := open_bool1 g5
  obtain ⟨z6, rfl, _, _⟩ := open_i64 g6
  exact ⟨b0, m1, z2, b3, A, c, bs, b5, z6, rfl, hr⟩
end
end Go.Proofs.Ytfaocndelibadaa

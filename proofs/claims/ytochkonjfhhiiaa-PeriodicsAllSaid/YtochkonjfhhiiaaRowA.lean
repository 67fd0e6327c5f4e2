/-
  Helper text: from the rows' readings to the walks: arguments opened; no statement is proved here.
-/
import Derived.Test.YtochkonjfhhiiaaInts
import Derived.Test.YtochkonjfhhiiaaRows
import Derived.ProofKit
import Derived.LaidMore
import Derived.OpenShut
import Derived.ChangeOld
import Derived.Deep.Slices
namespace Go.Proofs.Ytochkonjfhhiiaa
open Go Go.ChangeShapes Go.WideShapes Go.ChangeAt Go.RowKit Go.Deep

theorem own : ownKnob Try.prog.godebug = none := by kernel_rfl
theorem laidOut : laidOutB Try.prog = true := by kernel_rfl
theorem okWide_array {P : Program} {w : World} {r : Reach} {base : Nat} {t e : TypeId} {n : Nat} {v : Value} (ht : P.underlying t = some (.array n e)) (h : Value.okWide P w r base t v) : ∃ cs, v = .agg cs ∧ cs.size = P.cellsOf t := by
  simp only [Value.okWide, ht] at h
  obtain ⟨cs, h1, h2, _⟩ := h
  exact ⟨cs, h1, h2⟩
theorem arr2 {cs : Array Value} (h : cs.size = 2) : ∃ c0 c1, cs = #[c0, c1] := by
  obtain ⟨l⟩ := cs
  match l, h with
  | [a, b], _ => exact ⟨a, b, rfl⟩
section
variable {H : Type} {enc : TypeId × Value → H} {W : World}
theorem open_i64 {v : Value} {fuel : Nat} {y : DataW H × List MemPlace} (h : DataW.trod enc Try.prog W 0 (fun _ => true) true fuel 3 [v] = some y) : ∃ n : Int, v = .int .i64 n ∧ -9223372036854775808 ≤ n ∧ n ≤ 9223372036854775807 := by
  obtain ⟨t, ht, _, wt⟩ := DataW.trod_int Try.underlying3 h
  obtain rfl : v = _ := by simpa using ht
  have b := bounds_i64 wt
  exact ⟨t, rfl, b.1, b.2⟩
theorem open_2 {base : Nat} {v : Value} {d : DataW H} {p : List MemPlace} (hv : Value.okWide Try.prog W .any base 22 v) (h : DataW.Trod enc Try.prog W 0 (fun _ => true) true 22 v d p) :
    ∃ a b : Int, v = .agg #[.int .i64 a, .int .i64 b] ∧ -9223372036854775808 ≤ a ∧ a ≤ 9223372036854775807 ∧ -9223372036854775808 ≤ b ∧ b ≤ 9223372036854775807 := by
  obtain ⟨cs, rfl, hsz⟩ := okWide_array Try.underlying22 hv
  obtain ⟨c0, c1, rfl⟩ := arr2 (hsz.trans (by kernel_rfl))
  obtain ⟨fuel, hf⟩ := h
  obtain ⟨ys, m, _, _, _, hly, hy⟩ := DataW.trod_array Try.underlying22 hf
  have y0 := hy 0 (by omega)
  have y1 := hy 1 (by omega)
  rw [List.getElem?_eq_getElem (by omega)] at y0 y1
  have z0 : DataW.trod enc Try.prog W 0 (fun _ => true) true m 3 [c0] = some _ := y0
  have z1 : DataW.trod enc Try.prog W 0 (fun _ => true) true m 3 [c1] = some _ := y1
  obtain ⟨a, rfl, ha1, ha2⟩ := open_i64 z0
  obtain ⟨b, rfl, hb1, hb2⟩ := open_i64 z1
  exact ⟨a, b, rfl, ha1, ha2, hb1, hb2⟩
theorem arr3 {cs : Array Value} (h : cs.size = 3) : ∃ c0 c1 c2, cs = #[c0, c1, c2] := by
  obtain ⟨l⟩ := cs
  match l, h with
  | [a, b, c], _ => exact ⟨a, b, c, rfl⟩
theorem open_3 {base : Nat} {v : Value} {d : DataW H} {p : List MemPlace} (hv : Value.okWide Try.prog W .any base 35 v) (h : DataW.Trod enc Try.prog W 0 (fun _ => true) true 35 v d p) :
    ∃ a b c : Int, v = .agg #[.int .i64 a, .int .i64 b, .int .i64 c] := by
  obtain ⟨cs, rfl, hsz⟩ := okWide_array Try.underlying35 hv
  obtain ⟨c0, c1, c2, rfl⟩ := arr3 (hsz.trans (by kernel_rfl))
  obtain ⟨fuel, hf⟩ := h
  obtain ⟨ys, m, _, _, _, hly, hy⟩ := DataW.trod_array Try.underlying35 hf
  have y0 := hy 0 (by omega)
  have y1 := hy 1 (by omega)
  have y2 := hy 2 (by omega)
  rw [List.getElem?_eq_getElem (by omega)] at y0 y1 y2
  have z0 : DataW.trod enc Try.prog W 0 (fun _ => true) true m 3 [c0] = some _ := y0
  have z1 : DataW.trod enc Try.prog W 0 (fun _ => true) true m 3 [c1] = some _ := y1
  have z2 : DataW.trod enc Try.prog W 0 (fun _ => true) true m 3 [c2] = some _ := y2
  obtain ⟨a, rfl, _, _⟩ := open_i64 z0
  obtain ⟨b, rfl, _, _⟩ := open_i64 z1
  obtain ⟨c, rfl, _, _⟩ := open_i64 z2
  exact ⟨a, b, c, rfl⟩
end

end Go.Proofs.Ytochkonjfhhiiaa

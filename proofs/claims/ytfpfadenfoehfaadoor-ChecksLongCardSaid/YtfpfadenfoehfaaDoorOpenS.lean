/-
  Helper text: the struct argument of ChecksShort opened; no statement is proved here.
-/
import Derived.Test.YtfpfadenfoehfaaDoorLawShort
import Derived.Test.YtfpfadenfoehfaaDoorRow
import Derived.Deep.Slices
import Derived.Lib.SmallJoins
namespace Go.Proofs.YtfpfadenfoehfaaDoor
open Go Go.ChangeShapes Go.WideShapes Go.ChangeAt Go.RowKit Go.Joins Go.Deep

theorem array5 {cs : Array Value} (h : cs.size = 5) : ∃ c0 c1 c2 c3 c4, cs = #[c0, c1, c2, c3, c4] := by
  obtain ⟨l⟩ := cs
  match l, h with
  | [a, b, c, d, e], _ => exact ⟨a, b, c, d, e, rfl⟩
section
variable {H : Type} {enc : TypeId × Value → H} {W : World}
theorem open_u8 {v : Value} {fuel : Nat} {y : DataW H × List MemPlace} (h : DataW.trod enc Tryd.prog W 0 (fun _ => true) true fuel 5 [v] = some y) : ∃ m : Nat, v = .int .u8 (m : Int) ∧ m < 256 := by
  obtain ⟨t, ht, _, wt⟩ := DataW.trod_int Tryd.underlying5 h
  obtain rfl : v = _ := by simpa using ht
  have b := bounds_u8 wt
  obtain ⟨t, rfl⟩ := Int.eq_ofNat_of_zero_le b.1
  exact ⟨t, rfl, by omega⟩
theorem open_u16 {v : Value} {fuel : Nat} {y : DataW H × List MemPlace} (h : DataW.trod enc Tryd.prog W 0 (fun _ => true) true fuel 38 [v] = some y) : ∃ m : Nat, v = .int .u16 (m : Int) ∧ m < 65536 := by
  obtain ⟨t, ht, _, wt⟩ := DataW.trod_int Tryd.underlying38 h
  obtain rfl : v = _ := by simpa using ht
  have b := bounds_u16 wt
  obtain ⟨t, rfl⟩ := Int.eq_ofNat_of_zero_le b.1
  exact ⟨t, rfl, by omega⟩
theorem open_u32 {v : Value} {fuel : Nat} {y : DataW H × List MemPlace} (h : DataW.trod enc Tryd.prog W 0 (fun _ => true) true fuel 22 [v] = some y) : ∃ m : Nat, v = .int .u32 (m : Int) ∧ m < 4294967296 := by
  obtain ⟨t, ht, _, wt⟩ := DataW.trod_int Tryd.underlying22 h
  obtain rfl : v = _ := by simpa using ht
  have b := bounds_u32 wt
  obtain ⟨t, rfl⟩ := Int.eq_ofNat_of_zero_le b.1
  exact ⟨t, rfl, by omega⟩
theorem open_S {base : Nat} {v : Value} {d : DataW H} {p : List MemPlace} (hv : Value.okWide Tryd.prog W .any base 43 v) (h : DataW.Trod enc Tryd.prog W 0 (fun _ => true) true 43 v d p) :
    ∃ V N a0 a1 B : Nat, v = .agg #[.int .u32 (V : Int), .int .u8 (N : Int), .int .u8 (a0 : Int), .int .u8 (a1 : Int), .int .u8 (B : Int)] ∧ V < 4294967296 ∧ N < 256 ∧ a0 < 256 ∧ a1 < 256 ∧ B < 256 := by
  obtain ⟨cs, rfl, hsz⟩ := okWide_struct Tryd.underlying43 hv
  obtain ⟨c0, c1, c2, c3, c4, rfl⟩ := array5 (hsz.trans (by kernel_rfl))
  obtain ⟨fuel, hf⟩ := h
  obtain ⟨xs, k, _, _, _, hlen, hx⟩ := DataW.trod_struct Tryd.underlying43 hf
  have hlen : xs.length = 4 := hlen
  have e0 := hx 0 _ rfl
  have e1 := hx 1 _ rfl
  have e2 := hx 2 _ rfl
  have e3 := hx 3 _ rfl
  rw [List.getElem?_eq_getElem (by omega)] at e0 e1 e2 e3
  have g0 : DataW.trod enc Tryd.prog W 0 (fun _ => true) true k 22 [c0] = some _ := e0
  have g1 : DataW.trod enc Tryd.prog W 0 (fun _ => true) true k 5 [c1] = some _ := e1
  have g2 : DataW.trod enc Tryd.prog W 0 (fun _ => true) true k 41 [c2, c3] = some _ := e2
  have g3 : DataW.trod enc Tryd.prog W 0 (fun _ => true) true k 5 [c4] = some _ := e3
  obtain ⟨ys, m, _, _, _, hly, hy⟩ := DataW.trod_array Tryd.underlying41 g2
  have y0 := hy 0 (by omega)
  have y1 := hy 1 (by omega)
  rw [List.getElem?_eq_getElem (by omega)] at y0 y1
  have z0 : DataW.trod enc Tryd.prog W 0 (fun _ => true) true m 5 [c2] = some _ := y0
  have z1 : DataW.trod enc Tryd.prog W 0 (fun _ => true) true m 5 [c3] = some _ := y1
  obtain ⟨V, rfl, hV⟩ := open_u32 g0
  obtain ⟨N, rfl, hN⟩ := open_u8 g1
  obtain ⟨B, rfl, hB⟩ := open_u8 g3
  obtain ⟨a0, rfl, h0⟩ := open_u8 z0
  obtain ⟨a1, rfl, h1⟩ := open_u8 z1
  exact ⟨V, N, a0, a1, B, rfl, hV, hN, h0, h1, hB⟩
end

end Go.Proofs.YtfpfadenfoehfaaDoor

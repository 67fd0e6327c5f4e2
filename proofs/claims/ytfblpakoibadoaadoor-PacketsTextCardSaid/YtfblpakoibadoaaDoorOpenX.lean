/-
  Helper text: the law file's packet among the arguments opened; no statement is proved here.
-/
import Derived.Test.YtfblpakoibadoaaDoorOpenP
namespace Go.Proofs.YtfblpakoibadoaaDoor
open Go Go.ChangeShapes Go.WideShapes Go.ChangeAt Go.RowKit Go.Joins Go.Deep

theorem array6 {cs : Array Value} (h : cs.size = 6) : ∃ c0 c1 c2 c3 c4 c5, cs = #[c0, c1, c2, c3, c4, c5] := by
  obtain ⟨l⟩ := cs
  match l, h with
  | [a, b, c, d, e, f], _ => exact ⟨a, b, c, d, e, f, rfl⟩
section
variable {H : Type} {enc : TypeId × Value → H} {W : World}
set_option maxRecDepth 100000 in
theorem open_P {base : Nat} {v : Value} {d : DataW H} {p : List MemPlace} (hv : Value.okWide Tryd.prog W .any base 34 v) (h : DataW.Trod enc Tryd.prog W 0 (fun _ => true) true 34 v d p) :
    ∃ (wt a b fr fl : Nat) (A : Option Addr) (c : Nat) (xs : List UInt8), v = .agg #[.int .u8 (wt : Int), .int .u8 (a : Int), .int .u8 (b : Int), .int .u16 (fr : Int), .int .u8 (fl : Int), .slice A xs.length c] ∧ wt < 256 ∧ a < 256 ∧ b < 256 ∧ fr < 65536 ∧ fl < 256 ∧ Rd W W.heap.size A c xs := by
  obtain ⟨cs, rfl, hsz⟩ := okWide_struct Tryd.underlying34 hv
  obtain ⟨c0, c1, c2, c3, c4, c5, rfl⟩ := array6 (hsz.trans (by kernel_rfl))
  obtain ⟨fuel, hf⟩ := h
  obtain ⟨xs, k, _, _, _, hlen, hx⟩ := DataW.trod_struct Tryd.underlying34 hf
  have hlen : xs.length = 6 := hlen
  have e0 := hx 0 _ rfl
  have e1 := hx 1 _ rfl
  have e2 := hx 2 _ rfl
  have e3 := hx 3 _ rfl
  have e4 := hx 4 _ rfl
  have e5 := hx 5 _ rfl
  rw [List.getElem?_eq_getElem (by omega)] at e0 e1 e2 e3 e4 e5
  have g0 : DataW.trod enc Tryd.prog W 0 (fun _ => true) true k 5 [c0] = some _ := e0
  have g1 : DataW.trod enc Tryd.prog W 0 (fun _ => true) true k 5 [c1] = some _ := e1
  have g2 : DataW.trod enc Tryd.prog W 0 (fun _ => true) true k 5 [c2] = some _ := e2
  have g3 : DataW.trod enc Tryd.prog W 0 (fun _ => true) true k 23 [c3] = some _ := e3
  have g4 : DataW.trod enc Tryd.prog W 0 (fun _ => true) true k 5 [c4] = some _ := e4
  have g5 : DataW.trod enc Tryd.prog W 0 (fun _ => true) true k 27 [c5] = some _ := e5
  obtain ⟨m0, rfl, h0⟩ := open_u8 Tryd.underlying5 g0
  obtain ⟨m1, rfl, h1⟩ := open_u8 Tryd.underlying5 g1
  obtain ⟨m2, rfl, h2⟩ := open_u8 Tryd.underlying5 g2
  obtain ⟨m3, rfl, h3⟩ := open_u16 g3
  obtain ⟨m4, rfl, h4⟩ := open_u8 Tryd.underlying5 g4
  obtain ⟨A, c, bs, rfl, hr⟩ := open_bytes g5
  exact ⟨m0, m1, m2, m3, m4, A, c, bs, rfl, h0, h1, h2, h3, h4, hr⟩
end

end Go.Proofs.YtfblpakoibadoaaDoor

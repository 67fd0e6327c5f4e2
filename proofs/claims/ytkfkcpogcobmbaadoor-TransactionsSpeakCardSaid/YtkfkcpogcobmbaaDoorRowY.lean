/-
  Helper text: transactions and packets opened; no statement is proved here.
-/
import Derived.Test.YtkfkcpogcobmbaaDoorRowX
import Derived.Test.YtkfkcpogcobmbaaDoorTok
namespace Go.Proofs.YtkfkcpogcobmbaaDoor
open Go Go.ChangeShapes Go.WideShapes Go.ChangeAt Go.RowKit Go.Joins Go.Deep
section
variable {H : Type} {enc : TypeId × Value → H} {W : World}
theorem array7 {cs : Array Value} (h : cs.size = 7) : ∃ a b c d e f g, cs = #[a, b, c, d, e, f, g] := by
  rcases cs with ⟨l⟩
  simp at h
  match l, h with
  | [a, b, c, d, e, f, g], _ => exact ⟨a, b, c, d, e, f, g, rfl⟩
theorem array10 {cs : Array Value} (h : cs.size = 10) : ∃ a b c d e f g i j k, cs = #[a, b, c, d, e, f, g, i, j, k] := by
  rcases cs with ⟨l⟩
  simp at h
  match l, h with
  | [a, b, c, d, e, f, g, i, j, k], _ => exact ⟨a, b, c, d, e, f, g, i, j, k, rfl⟩
theorem open_i64 {v : Value} {fuel : Nat} {y : DataW H × List MemPlace} (h : DataW.trod enc Tryd.prog W 0 (fun _ => true) true fuel 3 [v] = some y) : ∃ z : Int, v = .int .i64 z ∧ -9223372036854775808 ≤ z ∧ z ≤ 9223372036854775807 := by
  obtain ⟨z, ht, _, wt⟩ := DataW.trod_int Tryd.underlying3 h
  obtain rfl : v = _ := by simpa using ht
  have b := bounds_i64 wt
  exact ⟨z, rfl, by omega, by omega⟩
set_option maxRecDepth 100000 in
theorem open_Try {base : Nat} {v : Value} {d : DataW H} {p : List MemPlace} (hv : Value.okWide Tryd.prog W .any base 45 v) (h : DataW.Trod enc Tryd.prog W 0 (fun _ => true) true 45 v d p) :
    ∃ (t : Tr) (A : Option Addr) (c : Nat), v = trV t A c ∧ t.addr < 256 ∧ t.endp < 256 ∧ t.what < 256 ∧ -9223372036854775808 ≤ t.max ∧ t.max ≤ 9223372036854775807 ∧ Rd W W.heap.size A c t.data := by
  obtain ⟨cs, rfl, hsz⟩ := okWide_struct Tryd.underlying45 hv
  obtain ⟨c0, c1, c2, c3, c4, c5, c6, rfl⟩ := array7 (hsz.trans (by kernel_rfl))
  obtain ⟨fuel, hf⟩ := h
  obtain ⟨xs, k, _, _, _, hlen, hx⟩ := DataW.trod_struct Tryd.underlying45 hf
  have hlen : xs.length = 7 := hlen
  have e0 := hx 0 _ rfl
  have e1 := hx 1 _ rfl
  have e2 := hx 2 _ rfl
  have e3 := hx 3 _ rfl
  have e4 := hx 4 _ rfl
  have e5 := hx 5 _ rfl
  have e6 := hx 6 _ rfl
  rw [List.getElem?_eq_getElem (by omega)] at e0 e1 e2 e3 e4 e5 e6
  have g0 : DataW.trod enc Tryd.prog W 0 (fun _ => true) true k 5 [c0] = some _ := e0
  have g1 : DataW.trod enc Tryd.prog W 0 (fun _ => true) true k 5 [c1] = some _ := e1
  have g2 : DataW.trod enc Tryd.prog W 0 (fun _ => true) true k 34 [c2] = some _ := e2
  have g3 : DataW.trod enc Tryd.prog W 0 (fun _ => true) true k 4 [c3] = some _ := e3
  have g4 : DataW.trod enc Tryd.prog W 0 (fun _ => true) true k 4 [c4] = some _ := e4
  have g5 : DataW.trod enc Tryd.prog W 0 (fun _ => true) true k 3 [c5] = some _ := e5
  have g6 : DataW.trod enc Tryd.prog W 0 (fun _ => true) true k 22 [c6] = some _ := e6
  obtain ⟨m0, rfl, h0⟩ := open_u8 Tryd.underlying5 g0
  obtain ⟨m1, rfl, h1⟩ := open_u8 Tryd.underlying5 g1
  obtain ⟨m2, rfl, h2⟩ := open_u8 Tryd.underlying34 g2
  obtain ⟨b3, rfl⟩ := open_bool g3
  obtain ⟨b4, rfl⟩ := open_bool g4
  obtain ⟨z5, rfl, h5, h6⟩ := open_i64 g5
  obtain ⟨A, c, bs, rfl, hr⟩ := open_bytes g6
  exact ⟨⟨m0, m1, m2, b3, b4, z5, bs⟩, A, c, rfl, h0, h1, h2, h5, h6, hr⟩
set_option maxRecDepth 100000 in
theorem open_Pk {base : Nat} {v : Value} {d : DataW H} {p : List MemPlace} (hv : Value.okWide Tryd.prog W .any base 40 v) (h : DataW.Trod enc Tryd.prog W 0 (fun _ => true) true 40 v d p) :
    ∃ (r : Pkt) (A : Option Addr) (c : Nat), v = pkV r A c ∧ r.pid < 256 ∧ r.addr < 256 ∧ r.endp < 256 ∧ r.frame < 65536 ∧ r.hub < 256 ∧ r.port < 256 ∧ r.kind < 256 ∧ Rd W W.heap.size A c r.data := by
  obtain ⟨cs, rfl, hsz⟩ := okWide_struct Tryd.underlying40 hv
  obtain ⟨c0, c1, c2, c3, c4, c5, c6, c7, c8, c9, rfl⟩ := array10 (hsz.trans (by kernel_rfl))
  obtain ⟨fuel, hf⟩ := h
  obtain ⟨xs, k, _, _, _, hlen, hx⟩ := DataW.trod_struct Tryd.underlying40 hf
  have hlen : xs.length = 6 := hlen
  have e0 := hx 0 _ rfl
  have e1 := hx 1 _ rfl
  have e2 := hx 2 _ rfl
  have e3 := hx 3 _ rfl
  have e4 := hx 4 _ rfl
  have e5 := hx 5 _ rfl
  rw [List.getElem?_eq_getElem (by omega)] at e0 e1 e2 e3 e4 e5
  have g0 : DataW.trod enc Tryd.prog W 0 (fun _ => true) true k 34 [c0] = some _ := e0
  have g1 : DataW.trod enc Tryd.prog W 0 (fun _ => true) true k 5 [c1] = some _ := e1
  have g2 : DataW.trod enc Tryd.prog W 0 (fun _ => true) true k 5 [c2] = some _ := e2
  have g3 : DataW.trod enc Tryd.prog W 0 (fun _ => true) true k 35 [c3] = some _ := e3
  have g4 : DataW.trod enc Tryd.prog W 0 (fun _ => true) true k 38 [c4, c5, c6, c7, c8] = some _ := e4
  have g5 : DataW.trod enc Tryd.prog W 0 (fun _ => true) true k 22 [c9] = some _ := e5
  obtain ⟨ys, m, _, _, _, hly, hy⟩ := DataW.trod_struct Tryd.underlying38 g4
  have hly : ys.length = 5 := hly
  have y0 := hy 0 _ rfl
  have y1 := hy 1 _ rfl
  have y2 := hy 2 _ rfl
  have y3 := hy 3 _ rfl
  have y4 := hy 4 _ rfl
  rw [List.getElem?_eq_getElem (by omega)] at y0 y1 y2 y3 y4
  have z0 : DataW.trod enc Tryd.prog W 0 (fun _ => true) true m 5 [c4] = some _ := y0
  have z1 : DataW.trod enc Tryd.prog W 0 (fun _ => true) true m 5 [c5] = some _ := y1
  have z2 : DataW.trod enc Tryd.prog W 0 (fun _ => true) true m 4 [c6] = some _ := y2
  have z3 : DataW.trod enc Tryd.prog W 0 (fun _ => true) true m 4 [c7] = some _ := y3
  have z4 : DataW.trod enc Tryd.prog W 0 (fun _ => true) true m 36 [c8] = some _ := y4
  obtain ⟨m0, rfl, h0⟩ := open_u8 Tryd.underlying34 g0
  obtain ⟨m1, rfl, h1⟩ := open_u8 Tryd.underlying5 g1
  obtain ⟨m2, rfl, h2⟩ := open_u8 Tryd.underlying5 g2
  obtain ⟨m3, rfl, h3⟩ := open_u16 g3
  obtain ⟨m4, rfl, h4⟩ := open_u8 Tryd.underlying5 z0
  obtain ⟨m5, rfl, h5⟩ := open_u8 Tryd.underlying5 z1
  obtain ⟨b6, rfl⟩ := open_bool z2
  obtain ⟨b7, rfl⟩ := open_bool z3
  obtain ⟨m8, rfl, h8⟩ := open_u8 Tryd.underlying36 z4
  obtain ⟨A, c, bs, rfl, hr⟩ := open_bytes g5
  exact ⟨⟨m0, m1, m2, m3, m4, m5, b6, b7, m8, bs⟩, A, c, rfl, h0, h1, h2, h3, h4, h5, h8, hr⟩
end

end Go.Proofs.YtkfkcpogcobmbaaDoor

/-
  Helper text: a packet among the arguments opened; no statement is proved here.
-/
import Derived.Test.YtfblpakoibadoaaDoorRow
namespace Go.Proofs.YtfblpakoibadoaaDoor
open Go Go.ChangeShapes Go.WideShapes Go.ChangeAt Go.RowKit Go.Joins Go.Deep

theorem array10 {cs : Array Value} (h : cs.size = 10) : ∃ c0 c1 c2 c3 c4 c5 c6 c7 c8 c9, cs = #[c0, c1, c2, c3, c4, c5, c6, c7, c8, c9] := by
  obtain ⟨l⟩ := cs
  match l, h with
  | [a, b, c, d, e, f, g, h, i, j], _ => exact ⟨a, b, c, d, e, f, g, h, i, j, rfl⟩
/-- A slice of bytes that came in reads as bytes. -/
theorem rd_some {W : World} {x : Addr} {len cap : Nat} {zs : List Int} (hl : len ≤ cap) (hm : cap ≤ maxLen) (hz : zs.length = cap)
    (hcell : ∀ i, i < zs.length → W.cell? (x.add i) = some (.int .u8 (zs.getD i 0))) (hwz : ∀ n ∈ zs, (Lit.int .u8 n).wf = true) : ∃ xs : List UInt8, len = xs.length ∧ Rd W W.heap.size (some x) cap xs := by
  have hlen : ((zs.take len).map fun n => UInt8.ofNat n.toNat).length = len := by rw [List.length_map, List.length_take]; omega
  refine ⟨(zs.take len).map fun n => UInt8.ofNat n.toNat, hlen.symm, by rw [hlen]; exact hl, by simpa [maxLen] using hm, fun hn => ?_⟩
  rw [hlen] at hn
  obtain ⟨b, off, rfl, hc⟩ := ints_at hcell (by omega)
  refine ⟨b, off, rfl, World.block_lt_of_cell? _ _ (hc 0 (by omega)), fun j hj => ?_⟩
  rw [hlen] at hj
  rw [hc j (by omega)]
  have hj2 : j < zs.length := by omega
  have hb := bounds_u8 (hwz zs[j] (List.getElem_mem hj2))
  have e : ((zs.take len).map fun n => UInt8.ofNat n.toNat).getD j 0 = UInt8.ofNat zs[j].toNat := by simp [List.getD, List.getElem?_take, hj, List.getElem?_eq_getElem hj2]
  rw [e]
  have e2 : ((UInt8.ofNat zs[j].toNat).toNat : Int) = zs[j] := by
    rw [UInt8.toNat_ofNat']
    omega
  rw [show zs.getD j 0 = zs[j] by simp [List.getD, List.getElem?_eq_getElem hj2]]
  show _ = some (Value.int .u8 _)
  rw [e2]
section
variable {H : Type} {enc : TypeId × Value → H} {W : World}
theorem open_bytes {v : Value} {fuel : Nat} {y : DataW H × List MemPlace} (h : DataW.trod enc Tryd.prog W 0 (fun _ => true) true fuel 27 [v] = some y) : ∃ (A : Option Addr) (c : Nat) (xs : List UInt8), v = .slice A xs.length c ∧ Rd W W.heap.size A c xs := by
  rcases open_ints Tryd.underlying27 Tryd.underlying5 (by kernel_rfl) h with ⟨hcs, _⟩ | ⟨x, l, c, zs, hcs, _, hl, hm, hz, _, hcell, hwz⟩
  · simp at hcs
    exact ⟨none, 0, [], hcs, Rd.nil _ _⟩
  · simp at hcs
    obtain ⟨xs, e, hr⟩ := rd_some hl hm (by simpa using hz) hcell hwz
    subst e
    exact ⟨_, _, xs, hcs, hr⟩
theorem open_u8 {t : TypeId} (hu : Tryd.prog.underlying t = some (.int .u8)) {v : Value} {fuel : Nat} {y : DataW H × List MemPlace} (h : DataW.trod enc Tryd.prog W 0 (fun _ => true) true fuel t [v] = some y) : ∃ m : Nat, v = .int .u8 (m : Int) ∧ m < 256 := by
  obtain ⟨z, ht, _, wt⟩ := DataW.trod_int hu h
  obtain rfl : v = _ := by simpa using ht
  have b := bounds_u8 wt
  obtain ⟨z, rfl⟩ := Int.eq_ofNat_of_zero_le b.1
  exact ⟨z, rfl, by omega⟩
theorem open_u16 {v : Value} {fuel : Nat} {y : DataW H × List MemPlace} (h : DataW.trod enc Tryd.prog W 0 (fun _ => true) true fuel 23 [v] = some y) : ∃ m : Nat, v = .int .u16 (m : Int) ∧ m < 65536 := by
  obtain ⟨t, ht, _, wt⟩ := DataW.trod_int Tryd.underlying23 h
  obtain rfl : v = _ := by simpa using ht
  have b := bounds_u16 wt
  obtain ⟨t, rfl⟩ := Int.eq_ofNat_of_zero_le b.1
  exact ⟨t, rfl, by omega⟩
theorem open_bool {v : Value} {fuel : Nat} {y : DataW H × List MemPlace} (h : DataW.trod enc Tryd.prog W 0 (fun _ => true) true fuel 4 [v] = some y) : ∃ b : Bool, v = .bool b := by
  obtain ⟨b, hb, _⟩ := DataW.trod_bool Tryd.underlying4 h
  exact ⟨b, by simpa using hb⟩
set_option maxRecDepth 100000 in
theorem open_Pk {base : Nat} {v : Value} {d : DataW H} {p : List MemPlace} (hv : Value.okWide Tryd.prog W .any base 29 v) (h : DataW.Trod enc Tryd.prog W 0 (fun _ => true) true 29 v d p) :
    ∃ (r : Rg) (A : Option Addr) (c : Nat) (xs : List UInt8), v = .agg (pcells r) ∧ r.Ok ∧ r.data = .slice A xs.length c ∧ Rd W W.heap.size A c xs := by
  obtain ⟨cs, rfl, hsz⟩ := okWide_struct Tryd.underlying29 hv
  obtain ⟨c0, c1, c2, c3, c4, c5, c6, c7, c8, c9, rfl⟩ := array10 (hsz.trans (by kernel_rfl))
  obtain ⟨fuel, hf⟩ := h
  obtain ⟨xs, k, _, _, _, hlen, hx⟩ := DataW.trod_struct Tryd.underlying29 hf
  have hlen : xs.length = 6 := hlen
  have e0 := hx 0 _ rfl
  have e1 := hx 1 _ rfl
  have e2 := hx 2 _ rfl
  have e3 := hx 3 _ rfl
  have e4 := hx 4 _ rfl
  have e5 := hx 5 _ rfl
  rw [List.getElem?_eq_getElem (by omega)] at e0 e1 e2 e3 e4 e5
  have g0 : DataW.trod enc Tryd.prog W 0 (fun _ => true) true k 22 [c0] = some _ := e0
  have g1 : DataW.trod enc Tryd.prog W 0 (fun _ => true) true k 5 [c1] = some _ := e1
  have g2 : DataW.trod enc Tryd.prog W 0 (fun _ => true) true k 5 [c2] = some _ := e2
  have g3 : DataW.trod enc Tryd.prog W 0 (fun _ => true) true k 23 [c3] = some _ := e3
  have g4 : DataW.trod enc Tryd.prog W 0 (fun _ => true) true k 26 [c4, c5, c6, c7, c8] = some _ := e4
  have g5 : DataW.trod enc Tryd.prog W 0 (fun _ => true) true k 27 [c9] = some _ := e5
  obtain ⟨ys, m, _, _, _, hly, hy⟩ := DataW.trod_struct Tryd.underlying26 g4
  have hly : ys.length = 5 := hly
  have y0 := hy 0 _ rfl
  have y1 := hy 1 _ rfl
  have y2 := hy 2 _ rfl
  have y3 := hy 3 _ rfl
  have y4 := hy 4 _ rfl
  rw [List.getElem?_eq_getElem (by omega)] at y0 y1 y2 y3 y4
  have z0 : DataW.trod enc Tryd.prog W 0 (fun _ => true) true m 5 [c4] = some _ := y0
  have z1 : DataW.trod enc Tryd.prog W 0 (fun _ => true) true m 5 [c5] = some _ := y1
  have z2 : DataW.trod enc Tryd.prog W 0 (fun _ => true) true m 4 [c6] = some _ := y2
  have z3 : DataW.trod enc Tryd.prog W 0 (fun _ => true) true m 4 [c7] = some _ := y3
  have z4 : DataW.trod enc Tryd.prog W 0 (fun _ => true) true m 24 [c8] = some _ := y4
  obtain ⟨m0, rfl, h0⟩ := open_u8 Tryd.underlying22 g0
  obtain ⟨m1, rfl, h1⟩ := open_u8 Tryd.underlying5 g1
  obtain ⟨m2, rfl, h2⟩ := open_u8 Tryd.underlying5 g2
  obtain ⟨m3, rfl, h3⟩ := open_u16 g3
  obtain ⟨m4, rfl, h4⟩ := open_u8 Tryd.underlying5 z0
  obtain ⟨m5, rfl, h5⟩ := open_u8 Tryd.underlying5 z1
  obtain ⟨b6, rfl⟩ := open_bool z2
  obtain ⟨b7, rfl⟩ := open_bool z3
  obtain ⟨m8, rfl, h8⟩ := open_u8 Tryd.underlying24 z4
  obtain ⟨A, c, bs, rfl, hr⟩ := open_bytes g5
  exact ⟨⟨m0, m1, m2, m3, m4, m5, b6, b7, m8, .slice A bs.length c, 0⟩, A, c, bs, rfl, ⟨h0, h1, h2, h3, h4, h5, h8, Nat.succ_pos _⟩, rfl, hr⟩
end

end Go.Proofs.YtfblpakoibadoaaDoor

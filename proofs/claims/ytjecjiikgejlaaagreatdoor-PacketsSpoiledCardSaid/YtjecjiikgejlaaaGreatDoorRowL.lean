/-
  Helper text: from the rows' readings to the walks, where the tables of the line are listed too; no statement is proved here.
-/
import Derived.Test.YtjecjiikgejlaaaGreatDoorRow
import Derived.Test.YtjecjiikgejlaaaGreatDoorOpenP
import Derived.Test.YtjecjiikgejlaaaGreatDoorLvSync
namespace Go.Proofs.YtjecjiikgejlaaaGreatDoor
open Go Go.ChangeShapes Go.WideShapes Go.ChangeAt Go.RowKit Go.Joins Go.Deep

theorem gSync : Tryz.prog.globalNamed "plugboard/levels.syncBits" = some 3 := by kernel_rfl
theorem gEnds : Tryz.prog.globalNamed "plugboard/levels.endStates" = some 4 := by kernel_rfl
theorem tSync : (Tryz.prog.globals[3]?).map (·.type) = some 125 := by kernel_rfl
theorem tEnds : (Tryz.prog.globals[4]?).map (·.type) = some 126 := by kernel_rfl

/-- What the rows of the line list. -/
abbrev laidAllL : List (String × DataW Unit) := [("math/bits.deBruijn32tab", Rows.laid_math_bits_deBruijn32tab), ("math/bits.deBruijn64tab", Rows.laid_math_bits_deBruijn64tab), ("internal/strconv.uint64pow10", Rows.laid_internal_strconv_uint64pow10),
  ("plugboard/checks.behindOne", Rows.laid_plugboard_checks_behindOne), ("plugboard/checks.behindFour", Rows.laid_plugboard_checks_behindFour), ("plugboard/levels.syncBits", Rows.laid_plugboard_levels_syncBits), ("plugboard/levels.endStates", Rows.laid_plugboard_levels_endStates), ("plugboard/packets.pidNames", Rows.laid_plugboard_packets_pidNames), ("plugboard/packets.stepNames", Rows.laid_plugboard_packets_stepNames), ("plugboard/packets.kindNames", Rows.laid_plugboard_packets_kindNames)]

theorem door_metL (os : Os) (args : Array Value) : laidMetH Tryz.prog laidAllL ((World.doorLaid Tryz.prog 400 os).forCall (fun _ _ => 0) ⟨#[], args, []⟩).memory :=
  laidMetH_of_parts3 (fuel := 8) (laidMet_of_run' 8 (by kernel_rfl) (by kernel_rfl)) (by kernel_rfl) (by kernel_rfl)

theorem laid_ofL {W : World} (h : laidMetH Tryz.prog laidAllL W) : Laid W ∧ Lv.Laid W := by
  rw [MakeChecks.laidMetH_plain _ _ _ (by kernel_rfl)] at h
  obtain ⟨ps, ⟨_, _, _, _, _, _, _, _, _, _, ⟨_, _, _, _, _, _, _, _, _, _, ⟨g2, t2, cs2, f2, p2, q2, hg2, ht2, hv2, hd2, ⟨g3, t3, cs3, f3, p3, q3, hg3, ht3, hv3, hd3, ⟨g4, t4, cs4, f4, p4, q4, hg4, ht4, hv4, hd4,
    ⟨g8, t8, cs8, f8, p8, q8, hg8, ht8, hv8, hd8, ⟨g9, t9, cs9, f9, p9, q9, hg9, ht9, hv9, hd9, ⟨g5, t5, cs5, f5, p5, q5, hg5, ht5, hv5, hd5, ⟨g6, t6, cs6, f6, p6, q6, hg6, ht6, hv6, hd6, ⟨g7, t7, cs7, f7, p7, q7, hg7, ht7, hv7, hd7, _, _⟩, _⟩, _⟩, _⟩, _⟩, _⟩, _⟩, _⟩, _⟩, _⟩, _, _⟩ := h
  obtain rfl := Option.some.inj (gPow.symm.trans hg2)
  obtain rfl := Option.some.inj (gOne.symm.trans hg3)
  obtain rfl := Option.some.inj (gFour.symm.trans hg4)
  obtain rfl := Option.some.inj (gPid.symm.trans hg5)
  obtain rfl := Option.some.inj (gStep.symm.trans hg6)
  obtain rfl := Option.some.inj (gKind.symm.trans hg7)
  obtain rfl := Option.some.inj (gSync.symm.trans hg8)
  obtain rfl := Option.some.inj (gEnds.symm.trans hg9)
  obtain rfl := Option.some.inj (tSync.symm.trans ht8)
  obtain rfl := Option.some.inj (tEnds.symm.trans ht9)
  obtain rfl := Option.some.inj (tPow.symm.trans ht2)
  obtain rfl := Option.some.inj (tOne.symm.trans ht3)
  obtain rfl := Option.some.inj (tFour.symm.trans ht4)
  obtain rfl := Option.some.inj (tPid.symm.trans ht5)
  obtain rfl := Option.some.inj (tStep.symm.trans ht6)
  obtain rfl := Option.some.inj (tKind.symm.trans ht7)
  have e2 : cs2.toList = Lib.pow10Tab.map fun z => Value.int .u64 z :=
    Lib.cells_of_tab (k := .u64) (zs := Lib.pow10Tab) Tryz.underlying150 Tryz.underlying67 (by kernel_rfl) (by kernel_rfl) hd2
  have e3 : cs3.toList = ([0, 20] : List Int).map fun z => Value.int .u8 z :=
    Lib.cells_of_tab (k := .u8) (zs := [0, 20]) Tryz.underlying133 Tryz.underlying5 (by kernel_rfl) (by kernel_rfl) hd3
  have e4 : cs4.toList = ([0, 52225, 55297, 5120, 61441, 15360, 10240, 58369, 40961, 27648, 30720, 46081, 20480, 39937, 34817, 17408] : List Int).map fun z => Value.int .u16 z :=
    Lib.cells_of_tab (k := .u16) (zs := [0, 52225, 55297, 5120, 61441, 15360, 10240, 58369, 40961, 27648, 30720, 46081, 20480, 39937, 34817, 17408]) Tryz.underlying128 Tryz.underlying23 (by kernel_rfl) (by kernel_rfl) hd4
  have e8 : cs8.toList = ([0, 0, 0, 0, 0, 0, 0, 1] : List Int).map fun z => Value.int .u8 z :=
    Lib.cells_of_tab (k := .u8) (zs := [0, 0, 0, 0, 0, 0, 0, 1]) Tryz.underlying125 Tryz.underlying5 (by kernel_rfl) (by kernel_rfl) hd8
  have e9 : cs9.toList = ([2, 2, 0] : List Int).map fun z => Value.int .u8 z :=
    Lib.cells_of_tab (k := .u8) (zs := [2, 2, 0]) Tryz.underlying126 Tryz.underlying58 (by kernel_rfl) (by kernel_rfl) hd9
  have e5 : cs5.toList = pidL.map sv := cells_of_strs (zs := pidL) Tryz.underlying89 Tryz.underlying9 (by kernel_rfl) (by kernel_rfl) hd5
  have e6 : cs6.toList = stepL.map sv := cells_of_strs (zs := stepL) Tryz.underlying121 Tryz.underlying9 (by kernel_rfl) (by kernel_rfl) hd6
  have e7 : cs7.toList = kindL.map sv := cells_of_strs (zs := kindL) Tryz.underlying123 Tryz.underlying9 (by kernel_rfl) (by kernel_rfl) hd7
  have hpow : Lib.TabIs Tryz.prog W "internal/strconv.uint64pow10" .u64 Lib.pow10Tab := by
    unfold Lib.TabIs
    rw [hv2, ← e2]
  have at_str : ∀ (zs : List (List UInt8)) (cs : Array Value) (j : Nat), cs.toList = zs.map sv → j < zs.length → cs[j]? = some (sv (zs.getD j [])) := fun zs cs j e hj => by
    rw [← Array.getElem?_toList, e, List.getElem?_map, List.getElem?_eq_getElem hj, List.getD_eq_getElem?_getD, List.getElem?_eq_getElem hj]
    rfl
  refine ⟨⟨⟨fun j hj => ?_, fun j hj => ?_⟩, fun j hj => ?_, fun j hj => ?_, fun j hj => ?_, fun w' hb => TabIs_below gPow hpow hb⟩, ⟨fun j hj => ?_, fun j hj => ?_⟩⟩
  · rw [World.var?_cell hg3 hv3 j, ← Array.getElem?_toList, e3]
    rcases (by omega : j = 0 ∨ j = 1) with rfl | rfl <;> rfl
  · rw [World.var?_cell hg4 hv4 j, ← Array.getElem?_toList, e4]
    rcases (by omega : j = 0 ∨ j = 1 ∨ j = 2 ∨ j = 3 ∨ j = 4 ∨ j = 5 ∨ j = 6 ∨ j = 7 ∨ j = 8 ∨ j = 9 ∨ j = 10 ∨ j = 11 ∨ j = 12 ∨ j = 13 ∨ j = 14 ∨ j = 15) with rfl | rfl | rfl | rfl | rfl | rfl | rfl | rfl | rfl | rfl | rfl | rfl | rfl | rfl | rfl | rfl <;> rfl
  · rw [World.var?_cell hg5 hv5 j]; exact at_str _ _ _ e5 hj
  · rw [World.var?_cell hg6 hv6 j]; exact at_str _ _ _ e6 hj
  · rw [World.var?_cell hg7 hv7 j]; exact at_str _ _ _ e7 hj

  · rw [World.var?_cell hg8 hv8 j, ← Array.getElem?_toList, e8]
    rcases (by omega : j = 0 ∨ j = 1 ∨ j = 2 ∨ j = 3 ∨ j = 4 ∨ j = 5 ∨ j = 6 ∨ j = 7) with rfl | rfl | rfl | rfl | rfl | rfl | rfl | rfl <;> rfl
  · rw [World.var?_cell hg9 hv9 j, ← Array.getElem?_toList, e9]
    rcases (by omega : j = 0 ∨ j = 1 ∨ j = 2) with rfl | rfl | rfl <;> rfl

theorem array6 {cs : Array Value} (h : cs.size = 6) : ∃ c0 c1 c2 c3 c4 c5, cs = #[c0, c1, c2, c3, c4, c5] := by
  obtain ⟨l⟩ := cs
  match l, h with
  | [a, b, c, d, e, f], _ => exact ⟨a, b, c, d, e, f, rfl⟩
section
variable {H : Type} {enc : TypeId × Value → H} {W : World}
set_option maxRecDepth 100000 in
theorem open_P {base : Nat} {v : Value} {d : DataW H} {p : List MemPlace} (hv : Value.okWide Tryz.prog W .any base 40 v) (h : DataW.Trod enc Tryz.prog W 0 (fun _ => true) true 40 v d p) :
    ∃ (wt a b fr fl : Nat) (A : Option Addr) (c : Nat) (xs : List UInt8), v = .agg #[.int .u8 (wt : Int), .int .u8 (a : Int), .int .u8 (b : Int), .int .u16 (fr : Int), .int .u8 (fl : Int), .slice A xs.length c] ∧ wt < 256 ∧ a < 256 ∧ b < 256 ∧ fr < 65536 ∧ fl < 256 ∧ Rd W W.heap.size A c xs := by
  obtain ⟨cs, rfl, hsz⟩ := okWide_struct Tryz.underlying40 hv
  obtain ⟨c0, c1, c2, c3, c4, c5, rfl⟩ := array6 (hsz.trans (by kernel_rfl))
  obtain ⟨fuel, hf⟩ := h
  obtain ⟨xs, k, _, _, _, hlen, hx⟩ := DataW.trod_struct Tryz.underlying40 hf
  have hlen : xs.length = 6 := hlen
  have e0 := hx 0 _ rfl
  have e1 := hx 1 _ rfl
  have e2 := hx 2 _ rfl
  have e3 := hx 3 _ rfl
  have e4 := hx 4 _ rfl
  have e5 := hx 5 _ rfl
  rw [List.getElem?_eq_getElem (by omega)] at e0 e1 e2 e3 e4 e5
  have g0 : DataW.trod enc Tryz.prog W 0 (fun _ => true) true k 5 [c0] = some _ := e0
  have g1 : DataW.trod enc Tryz.prog W 0 (fun _ => true) true k 5 [c1] = some _ := e1
  have g2 : DataW.trod enc Tryz.prog W 0 (fun _ => true) true k 5 [c2] = some _ := e2
  have g3 : DataW.trod enc Tryz.prog W 0 (fun _ => true) true k 23 [c3] = some _ := e3
  have g4 : DataW.trod enc Tryz.prog W 0 (fun _ => true) true k 5 [c4] = some _ := e4
  have g5 : DataW.trod enc Tryz.prog W 0 (fun _ => true) true k 27 [c5] = some _ := e5
  obtain ⟨m0, rfl, h0⟩ := open_u8 Tryz.underlying5 g0
  obtain ⟨m1, rfl, h1⟩ := open_u8 Tryz.underlying5 g1
  obtain ⟨m2, rfl, h2⟩ := open_u8 Tryz.underlying5 g2
  obtain ⟨m3, rfl, h3⟩ := open_u16 g3
  obtain ⟨m4, rfl, h4⟩ := open_u8 Tryz.underlying5 g4
  obtain ⟨A, c, bs, rfl, hr⟩ := open_bytes g5
  exact ⟨m0, m1, m2, m3, m4, A, c, bs, rfl, h0, h1, h2, h3, h4, hr⟩
end

end Go.Proofs.YtjecjiikgejlaaaGreatDoor

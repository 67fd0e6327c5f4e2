/-
  Helper text: from the rows' readings to the walks: the tables as they are laid, and packets among the arguments; no statement is proved here.
-/
import Derived.Test.YtfblpakoibadoaaDoorKept
import Derived.Test.YtfblpakoibadoaaDoorRows
import Derived.ProofKit
import Derived.LaidMore
import Derived.OpenShut
import Derived.ShutString
import Derived.ChangeOld
import Derived.Lib.LaidTab
import Derived.Shelf.Unicode.PredsPay
import Derived.Deep.Slices
import Derived.Lib.SmallJoins
namespace Go.Proofs.YtfblpakoibadoaaDoor
open Go Go.ChangeShapes Go.WideShapes Go.ChangeAt Go.RowKit Go.Joins Go.Deep

theorem own : ownKnob Tryd.prog.godebug = none := by kernel_rfl
theorem laidOut : laidOutB Tryd.prog = true := by kernel_rfl
theorem gOne : Tryd.prog.globalNamed "plugboard/checks.behindOne" = some 4 := by kernel_rfl
theorem gFour : Tryd.prog.globalNamed "plugboard/checks.behindFour" = some 3 := by kernel_rfl
theorem gPid : Tryd.prog.globalNamed "plugboard/packets.pidNames" = some 0 := by kernel_rfl
theorem gStep : Tryd.prog.globalNamed "plugboard/packets.stepNames" = some 1 := by kernel_rfl
theorem gKind : Tryd.prog.globalNamed "plugboard/packets.kindNames" = some 2 := by kernel_rfl
theorem gPow : Tryd.prog.globalNamed "internal/strconv.uint64pow10" = some 6 := by kernel_rfl
theorem tOne : (Tryd.prog.globals[4]?).map (·.type) = some 105 := by kernel_rfl
theorem tFour : (Tryd.prog.globals[3]?).map (·.type) = some 100 := by kernel_rfl
theorem tPid : (Tryd.prog.globals[0]?).map (·.type) = some 66 := by kernel_rfl
theorem tStep : (Tryd.prog.globals[1]?).map (·.type) = some 83 := by kernel_rfl
theorem tKind : (Tryd.prog.globals[2]?).map (·.type) = some 85 := by kernel_rfl
theorem tPow : (Tryd.prog.globals[6]?).map (·.type) = some 118 := by kernel_rfl

/-- What the rows list. -/
abbrev laidAll : List (String × DataW Unit) := [("math/bits.deBruijn32tab", Rows.laid_math_bits_deBruijn32tab), ("math/bits.deBruijn64tab", Rows.laid_math_bits_deBruijn64tab), ("internal/strconv.uint64pow10", Rows.laid_internal_strconv_uint64pow10),
  ("plugboard/checks.behindOne", Rows.laid_plugboard_checks_behindOne), ("plugboard/checks.behindFour", Rows.laid_plugboard_checks_behindFour), ("plugboard/packets.pidNames", Rows.laid_plugboard_packets_pidNames), ("plugboard/packets.stepNames", Rows.laid_plugboard_packets_stepNames), ("plugboard/packets.kindNames", Rows.laid_plugboard_packets_kindNames)]

theorem door_met (os : Os) (args : Array Value) : laidMetH Tryd.prog laidAll ((World.doorLaid Tryd.prog 400 os).forCall (fun _ _ => 0) ⟨#[], args, []⟩).memory :=
  laidMetH_of_parts3 (fuel := 8) (laidMet_of_run' 8 (by kernel_rfl) (by kernel_rfl)) (by kernel_rfl) (by kernel_rfl)

/-- A table of strings reads as strings. -/
theorem cells_of_strs {H : Type} {enc : TypeId × Value → H} {P : Program} {w : World} {base : Nat} {sp : Nat → Bool} {held : Bool} {fuel : Nat} {t e : TypeId} {n : Nat} {cs : List Value} {zs : List (List UInt8)} {p : List MemPlace}
    (ht : P.underlying t = some (.array n e)) (he : P.underlying e = some .string) (hce : P.cellsOf e = 1) (hct : P.cellsOf t = n)
    (h : DataW.trod enc P w base sp held fuel t cs = some (.agg (zs.map fun s => .lit (.string s)), p)) : cs = zs.map sv := by
  cases fuel with
  | zero => simp [DataW.trod] at h
  | succ fuel =>
    simp only [DataW.trod, ht, hce, hct, Nat.mul_one] at h
    split at h
    · rename_i hl
      obtain ⟨xs, hm, hx⟩ := Option.map_eq_some_iff.1 h
      have hxs : xs.map (·.1) = zs.map fun s => (DataW.lit (.string s) : DataW H) := by
        have := congrArg Prod.fst hx
        simpa using this
      have hxl : xs.length = n := by simpa using Lib.mapM_length hm
      have hzl : zs.length = n := by
        have := congrArg List.length hxs
        simp at this
        omega
      apply List.ext_getElem?
      intro i
      by_cases hi : i < n
      · obtain ⟨b, hb, hf⟩ := Lib.mapM_at hm i i (by simp [hi])
        obtain ⟨s, hc, rfl, _⟩ := DataW.trod_string he hf
        have h1 : cs[i]? = some (.string s) := by
          have := congrArg (·[0]?) hc
          simpa [List.getElem?_take, List.getElem?_drop] using this
        have h2 : (xs.map (·.1))[i]? = some (DataW.lit (.string s.data.toList) : DataW H) := by simp [hb]
        rw [hxs] at h2
        simp only [List.getElem?_map, Option.map_eq_some_iff, DataW.lit.injEq, Lit.string.injEq] at h2
        obtain ⟨z', hz', e'⟩ := h2
        rw [h1, List.getElem?_map, hz', Option.map_some]
        subst e'
        rfl
      · rw [List.getElem?_eq_none (by omega), List.getElem?_eq_none (by simp; omega)]
    · cases h

theorem laid_of {W : World} (h : laidMetH Tryd.prog laidAll W) : Laid W := by
  rw [MakeChecks.laidMetH_plain _ _ _ (by kernel_rfl)] at h
  obtain ⟨ps, ⟨_, _, _, _, _, _, _, _, _, _, ⟨_, _, _, _, _, _, _, _, _, _, ⟨g2, t2, cs2, f2, p2, q2, hg2, ht2, hv2, hd2, ⟨g3, t3, cs3, f3, p3, q3, hg3, ht3, hv3, hd3, ⟨g4, t4, cs4, f4, p4, q4, hg4, ht4, hv4, hd4,
    ⟨g5, t5, cs5, f5, p5, q5, hg5, ht5, hv5, hd5, ⟨g6, t6, cs6, f6, p6, q6, hg6, ht6, hv6, hd6, ⟨g7, t7, cs7, f7, p7, q7, hg7, ht7, hv7, hd7, _, _⟩, _⟩, _⟩, _⟩, _⟩, _⟩, _⟩, _⟩, _, _⟩ := h
  obtain rfl := Option.some.inj (gPow.symm.trans hg2)
  obtain rfl := Option.some.inj (gOne.symm.trans hg3)
  obtain rfl := Option.some.inj (gFour.symm.trans hg4)
  obtain rfl := Option.some.inj (gPid.symm.trans hg5)
  obtain rfl := Option.some.inj (gStep.symm.trans hg6)
  obtain rfl := Option.some.inj (gKind.symm.trans hg7)
  obtain rfl := Option.some.inj (tPow.symm.trans ht2)
  obtain rfl := Option.some.inj (tOne.symm.trans ht3)
  obtain rfl := Option.some.inj (tFour.symm.trans ht4)
  obtain rfl := Option.some.inj (tPid.symm.trans ht5)
  obtain rfl := Option.some.inj (tStep.symm.trans ht6)
  obtain rfl := Option.some.inj (tKind.symm.trans ht7)
  have e2 : cs2.toList = Lib.pow10Tab.map fun z => Value.int .u64 z :=
    Lib.cells_of_tab (k := .u64) (zs := Lib.pow10Tab) Tryd.underlying118 Tryd.underlying110 (by kernel_rfl) (by kernel_rfl) hd2
  have e3 : cs3.toList = ([0, 20] : List Int).map fun z => Value.int .u8 z :=
    Lib.cells_of_tab (k := .u8) (zs := [0, 20]) Tryd.underlying105 Tryd.underlying5 (by kernel_rfl) (by kernel_rfl) hd3
  have e4 : cs4.toList = ([0, 52225, 55297, 5120, 61441, 15360, 10240, 58369, 40961, 27648, 30720, 46081, 20480, 39937, 34817, 17408] : List Int).map fun z => Value.int .u16 z :=
    Lib.cells_of_tab (k := .u16) (zs := [0, 52225, 55297, 5120, 61441, 15360, 10240, 58369, 40961, 27648, 30720, 46081, 20480, 39937, 34817, 17408]) Tryd.underlying100 Tryd.underlying23 (by kernel_rfl) (by kernel_rfl) hd4
  have e5 : cs5.toList = pidL.map sv := cells_of_strs (zs := pidL) Tryd.underlying66 Tryd.underlying9 (by kernel_rfl) (by kernel_rfl) hd5
  have e6 : cs6.toList = stepL.map sv := cells_of_strs (zs := stepL) Tryd.underlying83 Tryd.underlying9 (by kernel_rfl) (by kernel_rfl) hd6
  have e7 : cs7.toList = kindL.map sv := cells_of_strs (zs := kindL) Tryd.underlying85 Tryd.underlying9 (by kernel_rfl) (by kernel_rfl) hd7
  have hpow : Lib.TabIs Tryd.prog W "internal/strconv.uint64pow10" .u64 Lib.pow10Tab := by
    unfold Lib.TabIs
    rw [hv2, ← e2]
  have at_str : ∀ (zs : List (List UInt8)) (cs : Array Value) (j : Nat), cs.toList = zs.map sv → j < zs.length → cs[j]? = some (sv (zs.getD j [])) := fun zs cs j e hj => by
    rw [← Array.getElem?_toList, e, List.getElem?_map, List.getElem?_eq_getElem hj, List.getD_eq_getElem?_getD, List.getElem?_eq_getElem hj]
    rfl
  refine ⟨⟨fun j hj => ?_, fun j hj => ?_⟩, fun j hj => ?_, fun j hj => ?_, fun j hj => ?_, fun w' hb => TabIs_below gPow hpow hb⟩
  · rw [World.var?_cell hg3 hv3 j, ← Array.getElem?_toList, e3]
    rcases (by omega : j = 0 ∨ j = 1) with rfl | rfl <;> rfl
  · rw [World.var?_cell hg4 hv4 j, ← Array.getElem?_toList, e4]
    rcases (by omega : j = 0 ∨ j = 1 ∨ j = 2 ∨ j = 3 ∨ j = 4 ∨ j = 5 ∨ j = 6 ∨ j = 7 ∨ j = 8 ∨ j = 9 ∨ j = 10 ∨ j = 11 ∨ j = 12 ∨ j = 13 ∨ j = 14 ∨ j = 15) with rfl | rfl | rfl | rfl | rfl | rfl | rfl | rfl | rfl | rfl | rfl | rfl | rfl | rfl | rfl | rfl <;> rfl
  · rw [World.var?_cell hg5 hv5 j]; exact at_str _ _ _ e5 hj
  · rw [World.var?_cell hg6 hv6 j]; exact at_str _ _ _ e6 hj
  · rw [World.var?_cell hg7 hv7 j]; exact at_str _ _ _ e7 hj

end Go.Proofs.YtfblpakoibadoaaDoor

/-
  Helper text: from the rows' readings to the walks: the table as it is laid, and arguments opened; no statement is proved here.
-/
import Derived.Test.YtkdlonpdnphmoaaGreatDoorRdB
import Derived.Test.YtkdlonpdnphmoaaGreatDoorRows
import Derived.ProofKit
import Derived.LaidMore
import Derived.OpenShut
import Derived.ShutString
import Derived.ChangeOld
import Derived.Lib.LaidTab
import Derived.Deep.Slices
import Derived.Lib.SmallJoins
namespace Go.Proofs.YtkdlonpdnphmoaaGreatDoor
open Go Go.ChangeShapes Go.WideShapes Go.ChangeAt Go.RowKit Go.Joins Go.Deep

theorem own : ownKnob Tryz.prog.godebug = none := by kernel_rfl
theorem laidOut : laidOutB Tryz.prog = true := by kernel_rfl
theorem g_pid : Tryz.prog.globalNamed "plugboard/packets.pidNames" = some 0 := by kernel_rfl
theorem t_pid : (Tryz.prog.globals[0]?).map (·.type) = some 184 := by kernel_rfl

/-- A table of strings reads as strings. -/
theorem cells_of_strs {H : Type} {enc : TypeId × Value → H} {P : Program} {w : World} {base : Nat} {sp : Nat → Bool} {held : Bool} {fuel : Nat} {t e : TypeId} {n : Nat} {cs : List Value} {zs : List (List UInt8)} {p : List MemPlace}
    (ht : P.underlying t = some (.array n e)) (he : P.underlying e = some .string) (hce : P.cellsOf e = 1) (hct : P.cellsOf t = n)
    (h : DataW.trod enc P w base sp held fuel t cs = some (.agg (zs.map fun s => .lit (.string s)), p)) : cs = zs.map stv := by
  cases fuel with
  | zero => simp [DataW.trod] at h
  | succ fuel =>
    simp only [DataW.trod, ht, hce, hct, Nat.mul_one] at h
    split at h
    · rename_i hl
      obtain ⟨xs, hm, hx⟩ := Option.map_eq_some_iff.1 h
      have hxs : xs.map (·.1) = zs.map fun s => (DataW.lit (.string s) : DataW H) := by
        have := congrArg Prod.fst hx
        simpa using this
      have hxl : xs.length = n := by simpa using Lib.mapM_length hm
      have hzl : zs.length = n := by
        have := congrArg List.length hxs
        simp at this
        omega
      apply List.ext_getElem?
      intro i
      by_cases hi : i < n
      · obtain ⟨b, hb, hf⟩ := Lib.mapM_at hm i i (by simp [hi])
        obtain ⟨s, hc, rfl, _⟩ := DataW.trod_string he hf
        have h1 : cs[i]? = some (.string s) := by
          have := congrArg (·[0]?) hc
          simpa [List.getElem?_take, List.getElem?_drop] using this
        have h2 : (xs.map (·.1))[i]? = some (DataW.lit (.string s.data.toList) : DataW H) := by simp [hb]
        rw [hxs] at h2
        simp only [List.getElem?_map, Option.map_eq_some_iff, DataW.lit.injEq, Lit.string.injEq] at h2
        obtain ⟨z', hz', e'⟩ := h2
        rw [h1, List.getElem?_map, hz', Option.map_some]
        subst e'
        rfl
      · rw [List.getElem?_eq_none (by omega), List.getElem?_eq_none (by simp; omega)]
    · cases h


/-- What the row lists. -/
abbrev laidX : List (String × DataW Unit) := [("math/bits.deBruijn32tab", Rows.laid_math_bits_deBruijn32tab), ("math/bits.deBruijn64tab", Rows.laid_math_bits_deBruijn64tab), ("internal/strconv.uint64pow10", Rows.laid_internal_strconv_uint64pow10),
  ("plugboard/packets.pidNames", Rows.laid_plugboard_packets_pidNames), ("plugboard/packets.stepNames", Rows.laid_plugboard_packets_stepNames), ("plugboard/packets.kindNames", Rows.laid_plugboard_packets_kindNames)]
theorem door_metX (os : Os) (args : Array Value) : laidMetH Tryz.prog laidX ((World.doorLaid Tryz.prog 400 os).forCall (fun _ _ => 0) ⟨#[], args, []⟩).memory :=
  laidMetH_of_parts3 (fuel := 8) (laidMet_of_run' 8 (by kernel_rfl) (by kernel_rfl)) (by kernel_rfl) (by kernel_rfl)
theorem laid_ofX {W : World} (h : laidMetH Tryz.prog laidX W) : Laid W := by
  rw [MakeChecks.laidMetH_plain _ _ _ (by kernel_rfl)] at h
  obtain ⟨ps, ⟨_, _, _, _, _, _, _, _, _, _, ⟨_, _, _, _, _, _, _, _, _, _, ⟨_, _, _, _, _, _, _, _, _, _, ⟨gpid, tpid, cspid, fpid, ppid, qpid, hgpid, htpid, hvpid, hdpid, _, _⟩, _⟩, _⟩, _⟩, _, _⟩ := h
  obtain rfl := Option.some.inj (g_pid.symm.trans hgpid)
  obtain rfl := Option.some.inj (t_pid.symm.trans htpid)
  have epid : cspid.toList = pidL.map stv := cells_of_strs (zs := pidL) Tryz.underlying184 Tryz.underlying9 (by kernel_rfl) (by kernel_rfl) hdpid
  have at_str : ∀ (zs : List (List UInt8)) (cs : Array Value) (j : Nat), cs.toList = zs.map stv → j < zs.length → cs[j]? = some (stv (zs.getD j [])) := fun zs cs j e hj => by
    rw [← Array.getElem?_toList, e, List.getElem?_map, List.getElem?_eq_getElem hj, List.getD_eq_getElem?_getD, List.getElem?_eq_getElem hj]
    rfl
  exact ⟨fun j hj => by rw [World.var?_cell hgpid hvpid j]; exact at_str _ _ _ epid hj⟩

section
variable {H : Type} {enc : TypeId × Value → H} {W : World}
theorem open_u8 {t : TypeId} (hu : Tryz.prog.underlying t = some (.int .u8)) {v : Value} {fuel : Nat} {y : DataW H × List MemPlace} (h : DataW.trod enc Tryz.prog W 0 (fun _ => true) true fuel t [v] = some y) : ∃ m : Nat, v = .int .u8 (m : Int) ∧ m < 256 := by
  obtain ⟨z, ht, _, wt⟩ := DataW.trod_int hu h
  obtain rfl : v = _ := by simpa using ht
  have b := bounds_u8 wt
  obtain ⟨z, rfl⟩ := Int.eq_ofNat_of_zero_le b.1
  exact ⟨z, rfl, by omega⟩
theorem open_i64 {v : Value} {fuel : Nat} {y : DataW H × List MemPlace} (h : DataW.trod enc Tryz.prog W 0 (fun _ => true) true fuel 3 [v] = some y) : ∃ z : Int, v = .int .i64 z := by
  obtain ⟨z, ht, _, _⟩ := DataW.trod_int Tryz.underlying3 h
  obtain rfl : v = _ := by simpa using ht
  exact ⟨z, rfl⟩
theorem open_bool {v : Value} {fuel : Nat} {y : DataW H × List MemPlace} (h : DataW.trod enc Tryz.prog W 0 (fun _ => true) true fuel 4 [v] = some y) : ∃ b : Bool, v = .bool b := by
  obtain ⟨b, hb, _⟩ := DataW.trod_bool Tryz.underlying4 h
  exact ⟨b, by simpa using hb⟩
theorem array4 {cs : Array Value} (h : cs.size = 4) : ∃ a b c d, cs = #[a, b, c, d] := by
  rcases cs with ⟨l⟩
  simp at h
  match l, h with
  | [a, b, c, d], _ => exact ⟨a, b, c, d, rfl⟩
set_option maxRecDepth 100000 in
theorem open_Cfg {base : Nat} {v : Value} {d : DataW H} {p : List MemPlace} (hv : Value.okWide Tryz.prog W .any base 24 v) (h : DataW.Trod enc Tryz.prog W 0 (fun _ => true) true 24 v d p) :
    ∃ (a : Nat) (b : Bool) (k : Nat) (m : Int), v = .agg #[.int .u8 (a : Int), .bool b, .int .u8 (k : Int), .int .i64 m] := by
  obtain ⟨cs, rfl, hsz⟩ := okWide_struct Tryz.underlying24 hv
  obtain ⟨c0, c1, c2, c3, rfl⟩ := array4 (hsz.trans (by kernel_rfl))
  obtain ⟨fuel, hf⟩ := h
  obtain ⟨xs, k, _, _, _, hlen, hx⟩ := DataW.trod_struct Tryz.underlying24 hf
  have hlen : xs.length = 4 := hlen
  have e0 := hx 0 _ rfl
  have e1 := hx 1 _ rfl
  have e2 := hx 2 _ rfl
  have e3 := hx 3 _ rfl
  rw [List.getElem?_eq_getElem (by omega)] at e0 e1 e2 e3
  have g0 : DataW.trod enc Tryz.prog W 0 (fun _ => true) true k 5 [c0] = some _ := e0
  have g1 : DataW.trod enc Tryz.prog W 0 (fun _ => true) true k 4 [c1] = some _ := e1
  have g2 : DataW.trod enc Tryz.prog W 0 (fun _ => true) true k 22 [c2] = some _ := e2
  have g3 : DataW.trod enc Tryz.prog W 0 (fun _ => true) true k 3 [c3] = some _ := e3
  obtain ⟨m0, rfl, _⟩ := open_u8 Tryz.underlying5 g0
  obtain ⟨b1, rfl⟩ := open_bool g1
  obtain ⟨m2, rfl, _⟩ := open_u8 Tryz.underlying22 g2
  obtain ⟨z3, rfl⟩ := open_i64 g3
  exact ⟨m0, b1, m2, z3, rfl⟩
end

end Go.Proofs.YtkdlonpdnphmoaaGreatDoor

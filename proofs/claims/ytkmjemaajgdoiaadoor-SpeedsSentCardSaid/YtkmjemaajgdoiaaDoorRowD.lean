/-
  Helper text: from the rows' readings to the walks: the tables as they are laid, and arguments opened; no statement is proved here.
-/
import Derived.Test.YtkmjemaajgdoiaaDoorKept
import Derived.Test.YtkmjemaajgdoiaaDoorLvSync
import Derived.Test.YtkmjemaajgdoiaaDoorRows
import Derived.ProofKit
import Derived.LaidMore
import Derived.OpenShut
import Derived.ShutString
import Derived.ChangeOld
import Derived.Lib.LaidTab
import Derived.Deep.Slices
import Derived.Lib.SmallJoins
namespace Go.Proofs.YtkmjemaajgdoiaaDoor
open Go Go.ChangeShapes Go.WideShapes Go.ChangeAt Go.RowKit Go.Joins Go.Deep

theorem own : ownKnob Tryd.prog.godebug = none := by kernel_rfl
theorem laidOut : laidOutB Tryd.prog = true := by kernel_rfl
theorem g_one : Tryd.prog.globalNamed "plugboard/checks.behindOne" = some 4 := by kernel_rfl
theorem t_one : (Tryd.prog.globals[4]?).map (·.type) = some 105 := by kernel_rfl
theorem g_four : Tryd.prog.globalNamed "plugboard/checks.behindFour" = some 3 := by kernel_rfl
theorem t_four : (Tryd.prog.globals[3]?).map (·.type) = some 99 := by kernel_rfl
theorem g_sync : Tryd.prog.globalNamed "plugboard/levels.syncBits" = some 0 := by kernel_rfl
theorem t_sync : (Tryd.prog.globals[0]?).map (·.type) = some 64 := by kernel_rfl
theorem g_ends : Tryd.prog.globalNamed "plugboard/levels.endStates" = some 1 := by kernel_rfl
theorem t_ends : (Tryd.prog.globals[1]?).map (·.type) = some 66 := by kernel_rfl
theorem g_pid : Tryd.prog.globalNamed "plugboard/packets.pidNames" = some 2 := by kernel_rfl
theorem t_pid : (Tryd.prog.globals[2]?).map (·.type) = some 86 := by kernel_rfl

/-- A table of strings reads as strings. -/
theorem cells_of_strs {H : Type} {enc : TypeId × Value → H} {P : Program} {w : World} {base : Nat} {sp : Nat → Bool} {held : Bool} {fuel : Nat} {t e : TypeId} {n : Nat} {cs : List Value} {zs : List (List UInt8)} {p : List MemPlace}
    (ht : P.underlying t = some (.array n e)) (he : P.underlying e = some .string) (hce : P.cellsOf e = 1) (hct : P.cellsOf t = n)
    (h : DataW.trod enc P w base sp held fuel t cs = some (.agg (zs.map fun s => .lit (.string s)), p)) : cs = zs.map sv := by
  cases fuel with
  | zero => simp [DataW.trod] at h
  | succ fuel =>
    simp only [DataW.trod, ht, hce, hct, Nat.mul_one] at h
    split at h
    · rename_i hl
      obtain ⟨xs, hm, hx⟩ := Option.map_eq_some_iff.1 h
      have hxs : xs.map (·.1) = zs.map fun s => (DataW.lit (.string s) : DataW H) := by
        have := congrArg Prod.fst hx
        simpa using this
      have hxl : xs.length = n := by simpa using Lib.mapM_length hm
      have hzl : zs.length = n := by
        have := congrArg List.length hxs
        simp at this
        omega
      apply List.ext_getElem?
      intro i
      by_cases hi : i < n
      · obtain ⟨b, hb, hf⟩ := Lib.mapM_at hm i i (by simp [hi])
        obtain ⟨s, hc, rfl, _⟩ := DataW.trod_string he hf
        have h1 : cs[i]? = some (.string s) := by
          have := congrArg (·[0]?) hc
          simpa [List.getElem?_take, List.getElem?_drop] using this
        have h2 : (xs.map (·.1))[i]? = some (DataW.lit (.string s.data.toList) : DataW H) := by simp [hb]
        rw [hxs] at h2
        simp only [List.getElem?_map, Option.map_eq_some_iff, DataW.lit.injEq, Lit.string.injEq] at h2
        obtain ⟨z', hz', e'⟩ := h2
        rw [h1, List.getElem?_map, hz', Option.map_some]
        subst e'
        rfl
      · rw [List.getElem?_eq_none (by omega), List.getElem?_eq_none (by simp; omega)]
    · cases h


/-- What the row lists. -/
abbrev laidW : List (String × DataW Unit) := [("plugboard/levels.syncBits", Rows.laid_plugboard_levels_syncBits), ("plugboard/levels.endStates", Rows.laid_plugboard_levels_endStates)]
theorem door_metW (os : Os) (args : Array Value) : laidMetH Tryd.prog laidW ((World.doorLaid Tryd.prog 400 os).forCall (fun _ _ => 0) ⟨#[], args, []⟩).memory :=
  laidMetH_of_parts3 (fuel := 8) (laidMet_of_run' 8 (by kernel_rfl) (by kernel_rfl)) (by kernel_rfl) (by kernel_rfl)
theorem laid_ofW {W : World} (h : laidMetH Tryd.prog laidW W) : Lv.Laid W := by
  rw [MakeChecks.laidMetH_plain _ _ _ (by kernel_rfl)] at h
  obtain ⟨ps, ⟨gsync, tsync, cssync, fsync, psync, qsync, hgsync, htsync, hvsync, hdsync, ⟨gends, tends, csends, fends, pends, qends, hgends, htends, hvends, hdends, _, _⟩, _⟩, _, _⟩ := h
  obtain rfl := Option.some.inj (g_sync.symm.trans hgsync)
  obtain rfl := Option.some.inj (t_sync.symm.trans htsync)
  obtain rfl := Option.some.inj (g_ends.symm.trans hgends)
  obtain rfl := Option.some.inj (t_ends.symm.trans htends)
  have esync : cssync.toList = ([0, 0, 0, 0, 0, 0, 0, 1] : List Int).map fun z => Value.int .u8 z :=
    Lib.cells_of_tab (k := .u8) (zs := [0, 0, 0, 0, 0, 0, 0, 1]) Tryd.underlying64 Tryd.underlying5 (by kernel_rfl) (by kernel_rfl) hdsync
  have eends : csends.toList = ([2, 2, 0] : List Int).map fun z => Value.int .u8 z :=
    Lib.cells_of_tab (k := .u8) (zs := [2, 2, 0]) Tryd.underlying66 Tryd.underlying65 (by kernel_rfl) (by kernel_rfl) hdends
  refine ⟨fun j hj => ?_, fun j hj => ?_⟩
  · rw [World.var?_cell hgsync hvsync j, ← Array.getElem?_toList, esync]
    rcases (by omega : j = 0 ∨ j = 1 ∨ j = 2 ∨ j = 3 ∨ j = 4 ∨ j = 5 ∨ j = 6 ∨ j = 7) with rfl | rfl | rfl | rfl | rfl | rfl | rfl | rfl <;> rfl
  · rw [World.var?_cell hgends hvends j, ← Array.getElem?_toList, eends]
    rcases (by omega : j = 0 ∨ j = 1 ∨ j = 2) with rfl | rfl | rfl <;> rfl

/-- What the row lists. -/
abbrev laidS : List (String × DataW Unit) := [("plugboard/checks.behindOne", Rows.laid_plugboard_checks_behindOne), ("plugboard/checks.behindFour", Rows.laid_plugboard_checks_behindFour), ("plugboard/levels.syncBits", Rows.laid_plugboard_levels_syncBits), ("plugboard/levels.endStates", Rows.laid_plugboard_levels_endStates), ("plugboard/packets.pidNames", Rows.laid_plugboard_packets_pidNames)]
theorem door_metS (os : Os) (args : Array Value) : laidMetH Tryd.prog laidS ((World.doorLaid Tryd.prog 400 os).forCall (fun _ _ => 0) ⟨#[], args, []⟩).memory :=
  laidMetH_of_parts3 (fuel := 8) (laidMet_of_run' 8 (by kernel_rfl) (by kernel_rfl)) (by kernel_rfl) (by kernel_rfl)
theorem laid_ofS {W : World} (h : laidMetH Tryd.prog laidS W) : Laid W ∧ Lv.Laid W := by
  rw [MakeChecks.laidMetH_plain _ _ _ (by kernel_rfl)] at h
  obtain ⟨ps, ⟨gone, tone, csone, fone, pone, qone, hgone, htone, hvone, hdone, ⟨gfour, tfour, csfour, ffour, pfour, qfour, hgfour, htfour, hvfour, hdfour, ⟨gsync, tsync, cssync, fsync, psync, qsync, hgsync, htsync, hvsync, hdsync, ⟨gends, tends, csends, fends, pends, qends, hgends, htends, hvends, hdends, ⟨gpid, tpid, cspid, fpid, ppid, qpid, hgpid, htpid, hvpid, hdpid, _, _⟩, _⟩, _⟩, _⟩, _⟩, _, _⟩ := h
  obtain rfl := Option.some.inj (g_one.symm.trans hgone)
  obtain rfl := Option.some.inj (t_one.symm.trans htone)
  obtain rfl := Option.some.inj (g_four.symm.trans hgfour)
  obtain rfl := Option.some.inj (t_four.symm.trans htfour)
  obtain rfl := Option.some.inj (g_sync.symm.trans hgsync)
  obtain rfl := Option.some.inj (t_sync.symm.trans htsync)
  obtain rfl := Option.some.inj (g_ends.symm.trans hgends)
  obtain rfl := Option.some.inj (t_ends.symm.trans htends)
  obtain rfl := Option.some.inj (g_pid.symm.trans hgpid)
  obtain rfl := Option.some.inj (t_pid.symm.trans htpid)
  have eone : csone.toList = ([0, 20] : List Int).map fun z => Value.int .u8 z :=
    Lib.cells_of_tab (k := .u8) (zs := [0, 20]) Tryd.underlying105 Tryd.underlying5 (by kernel_rfl) (by kernel_rfl) hdone
  have efour : csfour.toList = ([0, 52225, 55297, 5120, 61441, 15360, 10240, 58369, 40961, 27648, 30720, 46081, 20480, 39937, 34817, 17408] : List Int).map fun z => Value.int .u16 z :=
    Lib.cells_of_tab (k := .u16) (zs := [0, 52225, 55297, 5120, 61441, 15360, 10240, 58369, 40961, 27648, 30720, 46081, 20480, 39937, 34817, 17408]) Tryd.underlying99 Tryd.underlying32 (by kernel_rfl) (by kernel_rfl) hdfour
  have esync : cssync.toList = ([0, 0, 0, 0, 0, 0, 0, 1] : List Int).map fun z => Value.int .u8 z :=
    Lib.cells_of_tab (k := .u8) (zs := [0, 0, 0, 0, 0, 0, 0, 1]) Tryd.underlying64 Tryd.underlying5 (by kernel_rfl) (by kernel_rfl) hdsync
  have eends : csends.toList = ([2, 2, 0] : List Int).map fun z => Value.int .u8 z :=
    Lib.cells_of_tab (k := .u8) (zs := [2, 2, 0]) Tryd.underlying66 Tryd.underlying65 (by kernel_rfl) (by kernel_rfl) hdends
  have epid : cspid.toList = pidL.map sv := cells_of_strs (zs := pidL) Tryd.underlying86 Tryd.underlying9 (by kernel_rfl) (by kernel_rfl) hdpid
  have at_str : ∀ (zs : List (List UInt8)) (cs : Array Value) (j : Nat), cs.toList = zs.map sv → j < zs.length → cs[j]? = some (sv (zs.getD j [])) := fun zs cs j e hj => by
    rw [← Array.getElem?_toList, e, List.getElem?_map, List.getElem?_eq_getElem hj, List.getD_eq_getElem?_getD, List.getElem?_eq_getElem hj]
    rfl
  refine ⟨⟨⟨fun j hj => ?_, fun j hj => ?_⟩, fun j hj => ?_⟩, ⟨fun j hj => ?_, fun j hj => ?_⟩⟩
  · rw [World.var?_cell hgone hvone j, ← Array.getElem?_toList, eone]
    rcases (by omega : j = 0 ∨ j = 1) with rfl | rfl <;> rfl
  · rw [World.var?_cell hgfour hvfour j, ← Array.getElem?_toList, efour]
    rcases (by omega : j = 0 ∨ j = 1 ∨ j = 2 ∨ j = 3 ∨ j = 4 ∨ j = 5 ∨ j = 6 ∨ j = 7 ∨ j = 8 ∨ j = 9 ∨ j = 10 ∨ j = 11 ∨ j = 12 ∨ j = 13 ∨ j = 14 ∨ j = 15) with rfl | rfl | rfl | rfl | rfl | rfl | rfl | rfl | rfl | rfl | rfl | rfl | rfl | rfl | rfl | rfl <;> rfl
  · rw [World.var?_cell hgpid hvpid j]; exact at_str _ _ _ epid hj
  · rw [World.var?_cell hgsync hvsync j, ← Array.getElem?_toList, esync]
    rcases (by omega : j = 0 ∨ j = 1 ∨ j = 2 ∨ j = 3 ∨ j = 4 ∨ j = 5 ∨ j = 6 ∨ j = 7) with rfl | rfl | rfl | rfl | rfl | rfl | rfl | rfl <;> rfl
  · rw [World.var?_cell hgends hvends j, ← Array.getElem?_toList, eends]
    rcases (by omega : j = 0 ∨ j = 1 ∨ j = 2) with rfl | rfl | rfl <;> rfl

theorem rd_none (W : World) : Rd W W.heap.size none 0 [] := Rd.nil _ _
/-- A slice of bytes that came in reads as bytes. -/
theorem rd_some {W : World} {x : Addr} {len cap : Nat} {zs : List Int} (hl : len ≤ cap) (hm : cap ≤ maxLen) (hz : zs.length = cap)
    (hcell : ∀ i, i < zs.length → W.cell? (x.add i) = some (.int .u8 (zs.getD i 0))) (hwz : ∀ n ∈ zs, (Lit.int .u8 n).wf = true) : ∃ xs : List UInt8, len = xs.length ∧ Rd W W.heap.size (some x) cap xs := by
  have hlen : ((zs.take len).map fun n => UInt8.ofNat n.toNat).length = len := by rw [List.length_map, List.length_take]; omega
  refine ⟨(zs.take len).map fun n => UInt8.ofNat n.toNat, hlen.symm, by rw [hlen]; exact hl, by simpa [maxLen] using hm, fun hn => ?_⟩
  rw [hlen] at hn
  obtain ⟨b, off, rfl, hc⟩ := ints_at hcell (by omega)
  refine ⟨b, off, rfl, World.block_lt_of_cell? _ _ (hc 0 (by omega)), fun j hj => ?_⟩
  rw [hlen] at hj
  rw [hc j (by omega)]
  have hj2 : j < zs.length := by omega
  have hb := bounds_u8 (hwz zs[j] (List.getElem_mem hj2))
  have e : ((zs.take len).map fun n => UInt8.ofNat n.toNat).getD j 0 = UInt8.ofNat zs[j].toNat := by simp [List.getD, List.getElem?_take, hj, List.getElem?_eq_getElem hj2]
  rw [e]
  have e2 : ((UInt8.ofNat zs[j].toNat).toNat : Int) = zs[j] := by
    rw [UInt8.toNat_ofNat']
    omega
  rw [show zs.getD j 0 = zs[j] by simp [List.getD, List.getElem?_eq_getElem hj2]]
  show _ = some (Value.int .u8 _)
  rw [e2]
section
variable {H : Type} {enc : TypeId × Value → H} {W : World}
theorem open_bytes {v : Value} {fuel : Nat} {y : DataW H × List MemPlace} (h : DataW.trod enc Tryd.prog W 0 (fun _ => true) true fuel 22 [v] = some y) : ∃ (A : Option Addr) (c : Nat) (xs : List UInt8), v = .slice A xs.length c ∧ Rd W W.heap.size A c xs := by
  rcases open_ints Tryd.underlying22 Tryd.underlying5 (by kernel_rfl) h with ⟨hcs, _⟩ | ⟨x, l, c, zs, hcs, _, hl, hm, hz, _, hcell, hwz⟩
  · simp at hcs
    exact ⟨none, 0, [], hcs, Rd.nil _ _⟩
  · simp at hcs
    obtain ⟨xs, e, hr⟩ := rd_some hl hm (by simpa using hz) hcell hwz
    subst e
    exact ⟨_, _, xs, hcs, hr⟩
theorem open_u8 {t : TypeId} (hu : Tryd.prog.underlying t = some (.int .u8)) {v : Value} {fuel : Nat} {y : DataW H × List MemPlace} (h : DataW.trod enc Tryd.prog W 0 (fun _ => true) true fuel t [v] = some y) : ∃ m : Nat, v = .int .u8 (m : Int) ∧ m < 256 := by
  obtain ⟨z, ht, _, wt⟩ := DataW.trod_int hu h
  obtain rfl : v = _ := by simpa using ht
  have b := bounds_u8 wt
  obtain ⟨z, rfl⟩ := Int.eq_ofNat_of_zero_le b.1
  exact ⟨z, rfl, by omega⟩
theorem open_u16 {v : Value} {fuel : Nat} {y : DataW H × List MemPlace} (h : DataW.trod enc Tryd.prog W 0 (fun _ => true) true fuel 32 [v] = some y) : ∃ m : Nat, v = .int .u16 (m : Int) ∧ m < 65536 := by
  obtain ⟨t, ht, _, wt⟩ := DataW.trod_int Tryd.underlying32 h
  obtain rfl : v = _ := by simpa using ht
  have b := bounds_u16 wt
  obtain ⟨t, rfl⟩ := Int.eq_ofNat_of_zero_le b.1
  exact ⟨t, rfl, by omega⟩
theorem open_bool {v : Value} {fuel : Nat} {y : DataW H × List MemPlace} (h : DataW.trod enc Tryd.prog W 0 (fun _ => true) true fuel 4 [v] = some y) : ∃ b : Bool, v = .bool b := by
  obtain ⟨b, hb, _⟩ := DataW.trod_bool Tryd.underlying4 h
  exact ⟨b, by simpa using hb⟩
end
theorem array6 {cs : Array Value} (h : cs.size = 6) : ∃ c0 c1 c2 c3 c4 c5, cs = #[c0, c1, c2, c3, c4, c5] := by
  obtain ⟨l⟩ := cs
  match l, h with
  | [a, b, c, d, e, f], _ => exact ⟨a, b, c, d, e, f, rfl⟩
section
variable {H : Type} {enc : TypeId × Value → H} {W : World}
set_option maxRecDepth 100000 in
theorem open_P {base : Nat} {v : Value} {d : DataW H} {p : List MemPlace} (hv : Value.okWide Tryd.prog W .any base 34 v) (h : DataW.Trod enc Tryd.prog W 0 (fun _ => true) true 34 v d p) :
    ∃ (wt a b fr fl : Nat) (A : Option Addr) (c : Nat) (xs : List UInt8), v = .agg #[.int .u8 (wt : Int), .int .u8 (a : Int), .int .u8 (b : Int), .int .u16 (fr : Int), .int .u8 (fl : Int), .slice A xs.length c] ∧ wt < 256 ∧ a < 256 ∧ b < 256 ∧ fr < 65536 ∧ fl < 256 ∧ Rd W W.heap.size A c xs := by
  obtain ⟨cs, rfl, hsz⟩ := okWide_struct Tryd.underlying34 hv
  obtain ⟨c0, c1, c2, c3, c4, c5, rfl⟩ := array6 (hsz.trans (by kernel_rfl))
  obtain ⟨fuel, hf⟩ := h
  obtain ⟨xs, k, _, _, _, hlen, hx⟩ := DataW.trod_struct Tryd.underlying34 hf
  have hlen : xs.length = 6 := hlen
  have e0 := hx 0 _ rfl
  have e1 := hx 1 _ rfl
  have e2 := hx 2 _ rfl
  have e3 := hx 3 _ rfl
  have e4 := hx 4 _ rfl
  have e5 := hx 5 _ rfl
  rw [List.getElem?_eq_getElem (by omega)] at e0 e1 e2 e3 e4 e5
  have g0 : DataW.trod enc Tryd.prog W 0 (fun _ => true) true k 5 [c0] = some _ := e0
  have g1 : DataW.trod enc Tryd.prog W 0 (fun _ => true) true k 5 [c1] = some _ := e1
  have g2 : DataW.trod enc Tryd.prog W 0 (fun _ => true) true k 5 [c2] = some _ := e2
  have g3 : DataW.trod enc Tryd.prog W 0 (fun _ => true) true k 32 [c3] = some _ := e3
  have g4 : DataW.trod enc Tryd.prog W 0 (fun _ => true) true k 5 [c4] = some _ := e4
  have g5 : DataW.trod enc Tryd.prog W 0 (fun _ => true) true k 22 [c5] = some _ := e5
  obtain ⟨m0, rfl, h0⟩ := open_u8 Tryd.underlying5 g0
  obtain ⟨m1, rfl, h1⟩ := open_u8 Tryd.underlying5 g1
  obtain ⟨m2, rfl, h2⟩ := open_u8 Tryd.underlying5 g2
  obtain ⟨m3, rfl, h3⟩ := open_u16 g3
  obtain ⟨m4, rfl, h4⟩ := open_u8 Tryd.underlying5 g4
  obtain ⟨A, c, bs, rfl, hr⟩ := open_bytes g5
  exact ⟨m0, m1, m2, m3, m4, A, c, bs, rfl, h0, h1, h2, h3, h4, hr⟩
end


end Go.Proofs.YtkmjemaajgdoiaaDoor

/-
  Helper text, several in one; no statement is proved here.
-/
import Derived.Test.YtkfkcpogcobmbaaDoorKept
import Derived.Test.YtkfkcpogcobmbaaDoorRegB
import Derived.Test.YtkfkcpogcobmbaaDoorRows
import Derived.ProofKit
import Derived.LaidMore
import Derived.OpenShut
import Derived.ShutString
import Derived.ChangeOld
import Derived.Lib.LaidTab
import Derived.Deep.Slices
import Derived.Lib.SmallJoins
import Derived.Test.YtkfkcpogcobmbaaDoorTok
import Derived.Test.YtkfkcpogcobmbaaDoorNote
namespace Go.Proofs.YtkfkcpogcobmbaaDoor
open Go Go.ChangeShapes Go.WideShapes Go.ChangeAt Go.RowKit Go.Joins Go.Deep

theorem own : ownKnob Tryd.prog.godebug = none := by kernel_rfl
theorem laidOut : laidOutB Tryd.prog = true := by kernel_rfl
theorem g_pid : Tryd.prog.globalNamed "plugboard/packets.pidNames" = some 0 := by kernel_rfl
theorem t_pid : (Tryd.prog.globals[0]?).map (·.type) = some 129 := by kernel_rfl

/-- A table of strings reads as strings. -/
theorem cells_of_strs {H : Type} {enc : TypeId × Value → H} {P : Program} {w : World} {base : Nat} {sp : Nat → Bool} {held : Bool} {fuel : Nat} {t e : TypeId} {n : Nat} {cs : List Value} {zs : List (List UInt8)} {p : List MemPlace}
    (ht : P.underlying t = some (.array n e)) (he : P.underlying e = some .string) (hce : P.cellsOf e = 1) (hct : P.cellsOf t = n)
    (h : DataW.trod enc P w base sp held fuel t cs = some (.agg (zs.map fun s => .lit (.string s)), p)) : cs = zs.map stv := by
  cases fuel with
  | zero => simp [DataW.trod] at h
  | succ fuel =>
    simp only [DataW.trod, ht, hce, hct, Nat.mul_one] at h
    split at h
    · rename_i hl
      obtain ⟨xs, hm, hx⟩ := Option.map_eq_some_iff.1 h
      have hxs : xs.map (·.1) = zs.map fun s => (DataW.lit (.string s) : DataW H) := by
        have := congrArg Prod.fst hx
        simpa using this
      have hxl : xs.length = n := by simpa using Lib.mapM_length hm
      have hzl : zs.length = n := by
        have := congrArg List.length hxs
        simp at this
        omega
      apply List.ext_getElem?
      intro i
      by_cases hi : i < n
      · obtain ⟨b, hb, hf⟩ := Lib.mapM_at hm i i (by simp [hi])
        obtain ⟨s, hc, rfl, _⟩ := DataW.trod_string he hf
        have h1 : cs[i]? = some (.string s) := by
          have := congrArg (·[0]?) hc
          simpa [List.getElem?_take, List.getElem?_drop] using this
        have h2 : (xs.map (·.1))[i]? = some (DataW.lit (.string s.data.toList) : DataW H) := by simp [hb]
        rw [hxs] at h2
        simp only [List.getElem?_map, Option.map_eq_some_iff, DataW.lit.injEq, Lit.string.injEq] at h2
        obtain ⟨z', hz', e'⟩ := h2
        rw [h1, List.getElem?_map, hz', Option.map_some]
        subst e'
        rfl
      · rw [List.getElem?_eq_none (by omega), List.getElem?_eq_none (by simp; omega)]
    · cases h


/-- What the row lists. -/
abbrev laidX : List (String × DataW Unit) := [("plugboard/packets.pidNames", Rows.laid_plugboard_packets_pidNames)]
theorem door_metX (os : Os) (args : Array Value) : laidMetH Tryd.prog laidX ((World.doorLaid Tryd.prog 400 os).forCall (fun _ _ => 0) ⟨#[], args, []⟩).memory :=
  laidMetH_of_parts3 (fuel := 8) (laidMet_of_run' 8 (by kernel_rfl) (by kernel_rfl)) (by kernel_rfl) (by kernel_rfl)
theorem laid_ofX {W : World} (h : laidMetH Tryd.prog laidX W) : Laid W := by
  rw [MakeChecks.laidMetH_plain _ _ _ (by kernel_rfl)] at h
  obtain ⟨ps, ⟨gpid, tpid, cspid, fpid, ppid, qpid, hgpid, htpid, hvpid, hdpid, _, _⟩, _, _⟩ := h
  obtain rfl := Option.some.inj (g_pid.symm.trans hgpid)
  obtain rfl := Option.some.inj (t_pid.symm.trans htpid)
  have epid : cspid.toList = pidL.map stv := cells_of_strs (zs := pidL) Tryd.underlying129 Tryd.underlying9 (by kernel_rfl) (by kernel_rfl) hdpid
  have at_str : ∀ (zs : List (List UInt8)) (cs : Array Value) (j : Nat), cs.toList = zs.map stv → j < zs.length → cs[j]? = some (stv (zs.getD j [])) := fun zs cs j e hj => by
    rw [← Array.getElem?_toList, e, List.getElem?_map, List.getElem?_eq_getElem hj, List.getD_eq_getElem?_getD, List.getElem?_eq_getElem hj]
    rfl
  exact ⟨fun j hj => by rw [World.var?_cell hgpid hvpid j]; exact at_str _ _ _ epid hj⟩

theorem rd_none (W : World) : Rd W W.heap.size none 0 [] := Rd.nil _ _
/-- A slice of bytes that came in reads as bytes. -/
theorem rd_some {W : World} {x : Addr} {len cap : Nat} {zs : List Int} (hl : len ≤ cap) (hm : cap ≤ maxLen) (hz : zs.length = cap)
    (hcell : ∀ i, i < zs.length → W.cell? (x.add i) = some (.int .u8 (zs.getD i 0))) (hwz : ∀ n ∈ zs, (Lit.int .u8 n).wf = true) : ∃ xs : List UInt8, len = xs.length ∧ Rd W W.heap.size (some x) cap xs := by
  have hlen : ((zs.take len).map fun n => UInt8.ofNat n.toNat).length = len := by rw [List.length_map, List.length_take]; omega
  refine ⟨(zs.take len).map fun n => UInt8.ofNat n.toNat, hlen.symm, by rw [hlen]; exact hl, by simpa [maxLen] using hm, fun hn => ?_⟩
  rw [hlen] at hn
  obtain ⟨b, off, rfl, hc⟩ := ints_at hcell (by omega)
  refine ⟨b, off, rfl, World.block_lt_of_cell? _ _ (hc 0 (by omega)), fun j hj => ?_⟩
  rw [hlen] at hj
  rw [hc j (by omega)]
  have hj2 : j < zs.length := by omega
  have hb := bounds_u8 (hwz zs[j] (List.getElem_mem hj2))
  have e : ((zs.take len).map fun n => UInt8.ofNat n.toNat).getD j 0 = UInt8.ofNat zs[j].toNat := by simp [List.getD, List.getElem?_take, hj, List.getElem?_eq_getElem hj2]
  rw [e]
  have e2 : ((UInt8.ofNat zs[j].toNat).toNat : Int) = zs[j] := by
    rw [UInt8.toNat_ofNat']
    omega
  rw [show zs.getD j 0 = zs[j] by simp [List.getD, List.getElem?_eq_getElem hj2]]
  show _ = some (Value.int .u8 _)
  rw [e2]
section
variable {H : Type} {enc : TypeId × Value → H} {W : World}
theorem open_bytes {v : Value} {fuel : Nat} {y : DataW H × List MemPlace} (h : DataW.trod enc Tryd.prog W 0 (fun _ => true) true fuel 22 [v] = some y) : ∃ (A : Option Addr) (c : Nat) (xs : List UInt8), v = .slice A xs.length c ∧ Rd W W.heap.size A c xs := by
  rcases open_ints Tryd.underlying22 Tryd.underlying5 (by kernel_rfl) h with ⟨hcs, _⟩ | ⟨x, l, c, zs, hcs, _, hl, hm, hz, _, hcell, hwz⟩
  · simp at hcs
    exact ⟨none, 0, [], hcs, Rd.nil _ _⟩
  · simp at hcs
    obtain ⟨xs, e, hr⟩ := rd_some hl hm (by simpa using hz) hcell hwz
    subst e
    exact ⟨_, _, xs, hcs, hr⟩
theorem open_W {v : Value} {fuel : Nat} {y : DataW H × List MemPlace} (h : DataW.trod enc Tryd.prog W 0 (fun _ => true) true fuel 23 [v] = some y) : ∃ (A : Option Addr) (c : Nat) (xs : List UInt8), v = .slice A xs.length c ∧ Rd W W.heap.size A c xs := by
  rcases open_ints Tryd.underlying23 Tryd.underlying5 (by kernel_rfl) h with ⟨hcs, _⟩ | ⟨x, l, c, zs, hcs, _, hl, hm, hz, _, hcell, hwz⟩
  · simp at hcs
    exact ⟨none, 0, [], hcs, Rd.nil _ _⟩
  · simp at hcs
    obtain ⟨xs, e, hr⟩ := rd_some hl hm (by simpa using hz) hcell hwz
    subst e
    exact ⟨_, _, xs, hcs, hr⟩
theorem open_u8 {t : TypeId} (hu : Tryd.prog.underlying t = some (.int .u8)) {v : Value} {fuel : Nat} {y : DataW H × List MemPlace} (h : DataW.trod enc Tryd.prog W 0 (fun _ => true) true fuel t [v] = some y) : ∃ m : Nat, v = .int .u8 (m : Int) ∧ m < 256 := by
  obtain ⟨z, ht, _, wt⟩ := DataW.trod_int hu h
  obtain rfl : v = _ := by simpa using ht
  have b := bounds_u8 wt
  obtain ⟨z, rfl⟩ := Int.eq_ofNat_of_zero_le b.1
  exact ⟨z, rfl, by omega⟩
theorem open_u16 {v : Value} {fuel : Nat} {y : DataW H × List MemPlace} (h : DataW.trod enc Tryd.prog W 0 (fun _ => true) true fuel 35 [v] = some y) : ∃ m : Nat, v = .int .u16 (m : Int) ∧ m < 65536 := by
  obtain ⟨t, ht, _, wt⟩ := DataW.trod_int Tryd.underlying35 h
  obtain rfl : v = _ := by simpa using ht
  have b := bounds_u16 wt
  obtain ⟨t, rfl⟩ := Int.eq_ofNat_of_zero_le b.1
  exact ⟨t, rfl, by omega⟩
theorem open_bool {v : Value} {fuel : Nat} {y : DataW H × List MemPlace} (h : DataW.trod enc Tryd.prog W 0 (fun _ => true) true fuel 4 [v] = some y) : ∃ b : Bool, v = .bool b := by
  obtain ⟨b, hb, _⟩ := DataW.trod_bool Tryd.underlying4 h
  exact ⟨b, by simpa using hb⟩
end

end Go.Proofs.YtkfkcpogcobmbaaDoor

namespace Go.Proofs.YtkfkcpogcobmbaaDoor
open Go Go.ChangeShapes Go.WideShapes Go.ChangeAt Go.RowKit Go.Joins Go.Deep
section
variable {H : Type} {enc : TypeId × Value → H} {W : World}
theorem array7 {cs : Array Value} (h : cs.size = 7) : ∃ a b c d e f g, cs = #[a, b, c, d, e, f, g] := by
  rcases cs with ⟨l⟩
  simp at h
  match l, h with
  | [a, b, c, d, e, f, g], _ => exact ⟨a, b, c, d, e, f, g, rfl⟩
theorem array10 {cs : Array Value} (h : cs.size = 10) : ∃ a b c d e f g i j k, cs = #[a, b, c, d, e, f, g, i, j, k] := by
  rcases cs with ⟨l⟩
  simp at h
  match l, h with
  | [a, b, c, d, e, f, g, i, j, k], _ => exact ⟨a, b, c, d, e, f, g, i, j, k, rfl⟩
theorem open_i64 {v : Value} {fuel : Nat} {y : DataW H × List MemPlace} (h : DataW.trod enc Tryd.prog W 0 (fun _ => true) true fuel 3 [v] = some y) : ∃ z : Int, v = .int .i64 z ∧ -9223372036854775808 ≤ z ∧ z ≤ 9223372036854775807 := by
  obtain ⟨z, ht, _, wt⟩ := DataW.trod_int Tryd.underlying3 h
  obtain rfl : v = _ := by simpa using ht
  have b := bounds_i64 wt
  exact ⟨z, rfl, by omega, by omega⟩
set_option maxRecDepth 100000 in
theorem open_Try {base : Nat} {v : Value} {d : DataW H} {p : List MemPlace} (hv : Value.okWide Tryd.prog W .any base 45 v) (h : DataW.Trod enc Tryd.prog W 0 (fun _ => true) true 45 v d p) :
    ∃ (t : Tr) (A : Option Addr) (c : Nat), v = trV t A c ∧ t.addr < 256 ∧ t.endp < 256 ∧ t.what < 256 ∧ -9223372036854775808 ≤ t.max ∧ t.max ≤ 9223372036854775807 ∧ Rd W W.heap.size A c t.data := by
  obtain ⟨cs, rfl, hsz⟩ := okWide_struct Tryd.underlying45 hv
  obtain ⟨c0, c1, c2, c3, c4, c5, c6, rfl⟩ := array7 (hsz.trans (by kernel_rfl))
  obtain ⟨fuel, hf⟩ := h
  obtain ⟨xs, k, _, _, _, hlen, hx⟩ := DataW.trod_struct Tryd.underlying45 hf
  have hlen : xs.length = 7 := hlen
  have e0 := hx 0 _ rfl
  have e1 := hx 1 _ rfl
  have e2 := hx 2 _ rfl
  have e3 := hx 3 _ rfl
  have e4 := hx 4 _ rfl
  have e5 := hx 5 _ rfl
  have e6 := hx 6 _ rfl
  rw [List.getElem?_eq_getElem (by omega)] at e0 e1 e2 e3 e4 e5 e6
  have g0 : DataW.trod enc Tryd.prog W 0 (fun _ => true) true k 5 [c0] = some _ := e0
  have g1 : DataW.trod enc Tryd.prog W 0 (fun _ => true) true k 5 [c1] = some _ := e1
  have g2 : DataW.trod enc Tryd.prog W 0 (fun _ => true) true k 34 [c2] = some _ := e2
  have g3 : DataW.trod enc Tryd.prog W 0 (fun _ => true) true k 4 [c3] = some _ := e3
  have g4 : DataW.trod enc Tryd.prog W 0 (fun _ => true) true k 4 [c4] = some _ := e4
  have g5 : DataW.trod enc Tryd.prog W 0 (fun _ => true) true k 3 [c5] = some _ := e5
  have g6 : DataW.trod enc Tryd.prog W 0 (fun _ => true) true k 22 [c6] = some _ := e6
  obtain ⟨m0, rfl, h0⟩ := open_u8 Tryd.underlying5 g0
  obtain ⟨m1, rfl, h1⟩ := open_u8 Tryd.underlying5 g1
  obtain ⟨m2, rfl, h2⟩ := open_u8 Tryd.underlying34 g2
  obtain ⟨b3, rfl⟩ := open_bool g3
  obtain ⟨b4, rfl⟩ := open_bool g4
  obtain ⟨z5, rfl, h5, h6⟩ := open_i64 g5
  obtain ⟨A, c, bs, rfl, hr⟩ := open_bytes g6
  exact ⟨⟨m0, m1, m2, b3, b4, z5, bs⟩, A, c, rfl, h0, h1, h2, h5, h6, hr⟩
set_option maxRecDepth 100000 in
theorem open_Pk {base : Nat} {v : Value} {d : DataW H} {p : List MemPlace} (hv : Value.okWide Tryd.prog W .any base 40 v) (h : DataW.Trod enc Tryd.prog W 0 (fun _ => true) true 40 v d p) :
    ∃ (r : Pkt) (A : Option Addr) (c : Nat), v = pkV r A c ∧ r.pid < 256 ∧ r.addr < 256 ∧ r.endp < 256 ∧ r.frame < 65536 ∧ r.hub < 256 ∧ r.port < 256 ∧ r.kind < 256 ∧ Rd W W.heap.size A c r.data := by
  obtain ⟨cs, rfl, hsz⟩ := okWide_struct Tryd.underlying40 hv
  obtain ⟨c0, c1, c2, c3, c4, c5, c6, c7, c8, c9, rfl⟩ := array10 (hsz.trans (by kernel_rfl))
  obtain ⟨fuel, hf⟩ := h
  obtain ⟨xs, k, _, _, _, hlen, hx⟩ := DataW.trod_struct Tryd.underlying40 hf
  have hlen : xs.length = 6 := hlen
  have e0 := hx 0 _ rfl
  have e1 := hx 1 _ rfl
  have e2 := hx 2 _ rfl
  have e3 := hx 3 _ rfl
  have e4 := hx 4 _ rfl
  have e5 := hx 5 _ rfl
  rw [List.getElem?_eq_getElem (by omega)] at e0 e1 e2 e3 e4 e5
  have g0 : DataW.trod enc Tryd.prog W 0 (fun _ => true) true k 34 [c0] = some _ := e0
  have g1 : DataW.trod enc Tryd.prog W 0 (fun _ => true) true k 5 [c1] = some _ := e1
  have g2 : DataW.trod enc Tryd.prog W 0 (fun _ => true) true k 5 [c2] = some _ := e2
  have g3 : DataW.trod enc Tryd.prog W 0 (fun _ => true) true k 35 [c3] = some _ := e3
  have g4 : DataW.trod enc Tryd.prog W 0 (fun _ => true) true k 38 [c4, c5, c6, c7, c8] = some _ := e4
  have g5 : DataW.trod enc Tryd.prog W 0 (fun _ => true) true k 22 [c9] = some _ := e5
  obtain ⟨ys, m, _, _, _, hly, hy⟩ := DataW.trod_struct Tryd.underlying38 g4
  have hly : ys.length = 5 := hly
  have y0 := hy 0 _ rfl
  have y1 := hy 1 _ rfl
  have y2 := hy 2 _ rfl
  have y3 := hy 3 _ rfl
  have y4 := hy 4 _ rfl
  rw [List.getElem?_eq_getElem (by omega)] at y0 y1 y2 y3 y4
  have z0 : DataW.trod enc Tryd.prog W 0 (fun _ => true) true m 5 [c4] = some _ := y0
  have z1 : DataW.trod enc Tryd.prog W 0 (fun _ => true) true m 5 [c5] = some _ := y1
  have z2 : DataW.trod enc Tryd.prog W 0 (fun _ => true) true m 4 [c6] = some _ := y2
  have z3 : DataW.trod enc Tryd.prog W 0 (fun _ => true) true m 4 [c7] = some _ := y3
  have z4 : DataW.trod enc Tryd.prog W 0 (fun _ => true) true m 36 [c8] = some _ := y4
  obtain ⟨m0, rfl, h0⟩ := open_u8 Tryd.underlying34 g0
  obtain ⟨m1, rfl, h1⟩ := open_u8 Tryd.underlying5 g1
  obtain ⟨m2, rfl, h2⟩ := open_u8 Tryd.underlying5 g2
  obtain ⟨m3, rfl, h3⟩ := open_u16 g3
  obtain ⟨m4, rfl, h4⟩ := open_u8 Tryd.underlying5 z0
  obtain ⟨m5, rfl, h5⟩ := open_u8 Tryd.underlying5 z1
  obtain ⟨b6, rfl⟩ := open_bool z2
  obtain ⟨b7, rfl⟩ := open_bool z3
  obtain ⟨m8, rfl, h8⟩ := open_u8 Tryd.underlying36 z4
  obtain ⟨A, c, bs, rfl, hr⟩ := open_bytes g5
  exact ⟨⟨m0, m1, m2, m3, m4, m5, b6, b7, m8, bs⟩, A, c, rfl, h0, h1, h2, h3, h4, h5, h8, hr⟩
end

end Go.Proofs.YtkfkcpogcobmbaaDoor

namespace Go.Proofs.YtkfkcpogcobmbaaDoor
open Go Go.ChangeShapes Go.WideShapes Go.ChangeAt Go.RowKit Go.Joins Go.Deep

theorem Vs.of {ι : Type} {L : Lay ι} {F : Nat → Prop} {w : World} {b : Nat} : ∀ (l : List ι) (off : Nat), (∀ j (h : j < l.length), ∃ A c, w.rangeAt b (off + j * L.sz) (L.fc l[j] A c) ∧ RdS F w A c (L.fd l[j])) → ∃ vs, Vs L F w l vs ∧ ∀ i, i < l.length * L.sz → w.cell? ⟨b, off + i, none⟩ = vs[i]?
  | [], _, _ => ⟨[], rfl, fun i hi => by simp at hi⟩
  | s :: l, off, h => by
    obtain ⟨A, c, h1, h2⟩ := h 0 (by simp)
    obtain ⟨vs, h3, h4⟩ := Vs.of l (off + L.sz) (fun j hj => by
      obtain ⟨A, c, e1, e2⟩ := h (j + 1) (by simpa using hj)
      refine ⟨A, c, ?_, by simpa using e2⟩
      have : off + L.sz + j * L.sz = off + (j + 1) * L.sz := by rw [Nat.add_mul]; omega
      rw [this]
      simpa using e1)
    refine ⟨L.fc s A c ++ vs, ⟨A, c, vs, rfl, h2, h3⟩, fun i hi => ?_⟩
    have hl := L.len s A c
    by_cases hs : i < L.sz
    · rw [List.getElem?_append_left (by omega)]
      have hi2 : i < (L.fc s A c).length := by omega
      have := h1 i _ (List.getElem?_eq_getElem hi2)
      rw [List.getElem?_eq_getElem hi2, ← this]
      simp
    · rw [List.getElem?_append_right (by omega), hl]
      have hm : (s :: l).length * L.sz = l.length * L.sz + L.sz := by rw [List.length_cons, Nat.add_mul]; omega
      rw [← h4 (i - L.sz) (by omega)]
      have : off + L.sz + (i - L.sz) = off + i := by omega
      rw [this]

section
variable {H : Type} {enc : TypeId × Value → H} {W : World}
set_option maxRecDepth 100000 in
theorem open_PkC {fuel : Nat} {cs : List Value} {y : DataW H × List MemPlace} (hl : cs.length = 10) (hf : DataW.trod enc Tryd.prog W 0 (fun _ => true) true fuel 40 cs = some y) :
    ∃ (r : Pkt) (A : Option Addr) (c : Nat), cs = pkL r A c ∧ r.pid < 256 ∧ r.addr < 256 ∧ r.endp < 256 ∧ r.frame < 65536 ∧ r.hub < 256 ∧ r.port < 256 ∧ r.kind < 256 ∧ Rd W W.heap.size A c r.data := by
  obtain ⟨c0, c1, c2, c3, c4, c5, c6, c7, c8, c9, e⟩ := array10 (cs := cs.toArray) (by simpa using hl)
  obtain rfl : cs = [c0, c1, c2, c3, c4, c5, c6, c7, c8, c9] := by simpa using congrArg Array.toList e
  obtain ⟨xs, k, _, _, _, hlen, hx⟩ := DataW.trod_struct Tryd.underlying40 hf
  have hlen : xs.length = 6 := hlen
  have e0 := hx 0 _ rfl
  have e1 := hx 1 _ rfl
  have e2 := hx 2 _ rfl
  have e3 := hx 3 _ rfl
  have e4 := hx 4 _ rfl
  have e5 := hx 5 _ rfl
  rw [List.getElem?_eq_getElem (by omega)] at e0 e1 e2 e3 e4 e5
  have g0 : DataW.trod enc Tryd.prog W 0 (fun _ => true) true k 34 [c0] = some _ := e0
  have g1 : DataW.trod enc Tryd.prog W 0 (fun _ => true) true k 5 [c1] = some _ := e1
  have g2 : DataW.trod enc Tryd.prog W 0 (fun _ => true) true k 5 [c2] = some _ := e2
  have g3 : DataW.trod enc Tryd.prog W 0 (fun _ => true) true k 35 [c3] = some _ := e3
  have g4 : DataW.trod enc Tryd.prog W 0 (fun _ => true) true k 38 [c4, c5, c6, c7, c8] = some _ := e4
  have g5 : DataW.trod enc Tryd.prog W 0 (fun _ => true) true k 22 [c9] = some _ := e5
  obtain ⟨ys, m, _, _, _, hly, hy⟩ := DataW.trod_struct Tryd.underlying38 g4
  have hly : ys.length = 5 := hly
  have y0 := hy 0 _ rfl
  have y1 := hy 1 _ rfl
  have y2 := hy 2 _ rfl
  have y3 := hy 3 _ rfl
  have y4 := hy 4 _ rfl
  rw [List.getElem?_eq_getElem (by omega)] at y0 y1 y2 y3 y4
  have z0 : DataW.trod enc Tryd.prog W 0 (fun _ => true) true m 5 [c4] = some _ := y0
  have z1 : DataW.trod enc Tryd.prog W 0 (fun _ => true) true m 5 [c5] = some _ := y1
  have z2 : DataW.trod enc Tryd.prog W 0 (fun _ => true) true m 4 [c6] = some _ := y2
  have z3 : DataW.trod enc Tryd.prog W 0 (fun _ => true) true m 4 [c7] = some _ := y3
  have z4 : DataW.trod enc Tryd.prog W 0 (fun _ => true) true m 36 [c8] = some _ := y4
  obtain ⟨m0, rfl, h0⟩ := open_u8 Tryd.underlying34 g0
  obtain ⟨m1, rfl, h1⟩ := open_u8 Tryd.underlying5 g1
  obtain ⟨m2, rfl, h2⟩ := open_u8 Tryd.underlying5 g2
  obtain ⟨m3, rfl, h3⟩ := open_u16 g3
  obtain ⟨m4, rfl, h4⟩ := open_u8 Tryd.underlying5 z0
  obtain ⟨m5, rfl, h5⟩ := open_u8 Tryd.underlying5 z1
  obtain ⟨b6, rfl⟩ := open_bool z2
  obtain ⟨b7, rfl⟩ := open_bool z3
  obtain ⟨m8, rfl, h8⟩ := open_u8 Tryd.underlying36 z4
  obtain ⟨A, c, bs, rfl, hr⟩ := open_bytes g5
  exact ⟨⟨m0, m1, m2, m3, m4, m5, b6, b7, m8, bs⟩, A, c, rfl, h0, h1, h2, h3, h4, h5, h8, hr⟩
/-- Its numbers are in range. -/
def Pkt.In (r : Pkt) : Prop := r.pid < 256 ∧ r.addr < 256 ∧ r.endp < 256 ∧ r.frame < 65536 ∧ r.hub < 256 ∧ r.port < 256 ∧ r.kind < 256
theorem Pkt.In.ok {r : Pkt} (h : r.In) (hl : r.data.length ≤ 1000000) : r.Ok := ⟨h.1, h.2.1, h.2.2.1, h.2.2.2.1, h.2.2.2.2.1, h.2.2.2.2.2.1, h.2.2.2.2.2.2, hl⟩
theorem cells_pk : Tryd.prog.cellsOf 40 = 10 := by kernel_rfl
theorem open_Pks {v : Value} {fuel : Nat} {y : DataW H × List MemPlace} (h : DataW.trod enc Tryd.prog W 0 (fun _ => true) true fuel 51 [v] = some y) :
    ∃ (A : Option Addr) (c : Nat) (l : List Pkt), v = .slice A l.length c ∧ RdL layPk (fun k => k < W.heap.size) W A c l ∧ ∀ a ∈ l, a.In := by
  rcases open_slice Tryd.underlying51 h with ⟨hcs, _⟩ | ⟨a, len, cap, m, n, D, Pl, hcs, _, hl, hm, hmm, _, hx⟩
  · simp at hcs
    exact ⟨none, 0, [], hcs, ⟨Nat.le_refl _, by omega, fun h => absurd h (by simp)⟩, fun a h => by simp at h⟩
  · simp at hcs hmm
    subst hmm
    rw [cells_pk] at hx
    have each : ∀ i, i < len → ∃ p : Pkt × Option Addr × Nat, (∀ j v, (pkL p.1 p.2.1 p.2.2)[j]? = some v → W.cell? ((a.add (i * 10)).add j) = some v) ∧ p.1.In ∧ Rd W W.heap.size p.2.1 p.2.2 p.1.data := fun i hi => by
      obtain ⟨cs', h1, h2⟩ := hx i (by omega)
      obtain ⟨_, hlen, hcell⟩ := World.cells?_some h1
      obtain ⟨r, A, c, rfl, e0, e1, e2, e3, e4, e5, e6, hr⟩ := open_PkC hlen h2
      exact ⟨(r, A, c), fun j v hj => (hcell j (by have := (List.getElem?_eq_some_iff.1 hj).1; exact this)).trans hj, ⟨e0, e1, e2, e3, e4, e5, e6⟩, hr⟩
    haveI : Inhabited (Pkt × Option Addr × Nat) := ⟨(zeroP, none, 0)⟩
    obtain ⟨p, hp⟩ := choose_lt each
    have hlen : ((List.range len).map fun i => (p i).1).length = len := by simp
    have hat : ∀ j (h : j < ((List.range len).map fun i => (p i).1).length), ((List.range len).map fun i => (p i).1)[j] = (p j).1 := fun j h => by simp
    refine ⟨some a, _, (List.range len).map fun i => (p i).1, by rw [hlen]; exact hcs, ⟨by rw [hlen]; exact hl, by simpa [maxLen] using hm, fun hn => ?_⟩, fun x hx => ?_⟩
    · have hn' : 0 < len := by simpa using hn
      have hc0 := (hp 0 hn').1 0 _ rfl
      obtain ⟨b, off, sp⟩ := a
      obtain rfl : sp = none := by simpa [Addr.add] using World.cell?_spot hc0
      obtain ⟨vs, hv, hc⟩ := Vs.of (L := layPk) (F := fun k => k < W.heap.size) (w := W) (b := b) ((List.range len).map fun i => (p i).1) off (fun j hj => by
        rw [hat j hj]
        have hj' : j < len := by simpa using hj
        refine ⟨(p j).2.1, (p j).2.2, fun i v hi => ?_, (hp j hj').2.2.rdS⟩
        have := (hp j hj').1 i v hi
        rw [Go.WideShapes.add_plain, Go.WideShapes.add_plain] at this
        exact this)
      exact ⟨b, off, vs, rfl, World.block_lt_of_cell? _ _ hc0, hv, hc⟩
    · obtain ⟨i, hi, rfl⟩ := List.mem_map.1 hx
      exact (hp i (by simpa using hi)).2.1
theorem arr2 {cs : Array Value} (h : cs.size = 2) : ∃ c0 c1, cs = #[c0, c1] := by
  obtain ⟨l⟩ := cs
  match l, h with
  | [a, b], _ => exact ⟨a, b, rfl⟩
set_option maxRecDepth 100000 in
theorem open_D {base : Nat} {v : Value} {d : DataW H} {p : List MemPlace} (hv : Value.okWide Tryd.prog W .any base 62 v) (h : DataW.Trod enc Tryd.prog W 0 (fun _ => true) true 62 v d p) :
    ∃ (A : Option Addr) (c : Nat) (l : List Pkt) (B : Option Addr) (e : Nat) (xs : List UInt8), v = .agg #[.slice A l.length c, .slice B xs.length e] ∧ RdL layPk (fun k => k < W.heap.size) W A c l ∧ (∀ a ∈ l, a.In) ∧ Rd W W.heap.size B e xs := by
  obtain ⟨cs, rfl, hsz⟩ := okWide_struct Tryd.underlying62 hv
  obtain ⟨c0, c1, rfl⟩ := arr2 (hsz.trans (by kernel_rfl))
  obtain ⟨fuel, hf⟩ := h
  obtain ⟨xs, k, _, _, _, hlen, hx⟩ := DataW.trod_struct Tryd.underlying62 hf
  have hlen : xs.length = 2 := hlen
  have e0 := hx 0 _ rfl
  have e1 := hx 1 _ rfl
  rw [List.getElem?_eq_getElem (by omega)] at e0 e1
  have g0 : DataW.trod enc Tryd.prog W 0 (fun _ => true) true k 51 [c0] = some _ := e0
  have g1 : DataW.trod enc Tryd.prog W 0 (fun _ => true) true k 23 [c1] = some _ := e1
  obtain ⟨A, c, l, rfl, hl, hi⟩ := open_Pks g0
  obtain ⟨B, e, ys, rfl, hr⟩ := open_W g1
  exact ⟨A, c, l, B, e, ys, rfl, hl, hi, hr⟩
end

end Go.Proofs.YtkfkcpogcobmbaaDoor

